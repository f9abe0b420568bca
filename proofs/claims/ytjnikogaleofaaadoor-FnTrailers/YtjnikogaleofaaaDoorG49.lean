/- Texts of ours put together: IxV. -/
import Derived.Test.YtjnikogaleofaaaDoorG46
import Derived.Test.YtjnikogaleofaaaDoorG47
import Derived.Test.YtjnikogaleofaaaDoorG48
import Derived.Test.YtjnikogaleofaaaDoorG39
import Derived.Test.YtjnikogaleofaaaDoorG31
import Derived.Test.YtjnikogaleofaaaDoorG15
import Derived.Test.YtjnikogaleofaaaDoorG45
namespace Go.Proofs.YtjnikogaleofaaaDoor
open Go.ChangeShapes Go.WideShapes Go.ChangeAt Go.RowKit
set_option maxRecDepth 20000 in
set_option maxHeartbeats 2000000 in
theorem l03Two_any (tag : ByteArray) (k n : Int) (w : World) (h0 : 0 ≤ n) (h1 : n ≤ 1000000) (hk0 : 0 ≤ k) (hk1 : k ≤ 1000000) : Calls Tryd.prog 16 #[.string tag, .int .i64 k, .int .i64 n] w fun e w' => ∃ u vals, e = .returned (.agg #[.string tag, u]) ∧ OwnV w.heap.size w' u vals ([decS k, decS n].map fun t => [t]) ∧ Below w.heap.size w w' := by
  have sk := decS_size k hk0 hk1
  have sn := decS_size n h0 h1
  have hZ : RY w.heap.size w (w.alloc (.cells #[.string ⟨#[]⟩, .slice none 0 0] 33)) := ⟨World.alloc_heap_new w _, (Below.refl _ _).alloc (Nat.le_refl _) _, Nat.le_refl _⟩
  go_enter Tryd.func16, Tryd.ntmps16
  go_wp2_with fail
  generalize (w.alloc (.cells #[.string ⟨#[]⟩, .slice none 0 0] 33)) = W0 at *
  refine (dec_any k _ hk0 hk1).mono ?_
  rintro e w1 ⟨rfl, hb1⟩
  generalize hDk : decS k = Dk at *
  generalize hDn : decS n = Dn at *
  have HD : Hid (decS k = Dk ∧ decS n = Dn) := ⟨hDk, hDn⟩
  clear hDk hDn
  have H1 : Hid (RY w.heap.size w w1) := hZ.below hb1
  clear hZ hb1
  go_wp2_with fail
  refine (dec_any n _ h0 h1).mono ?_
  rintro e w2 ⟨rfl, hb2⟩
  rw [HD.out.2]
  have H2 : Hid (RY w.heap.size w w2) := H1.out.below hb2
  clear hb2
  go_wp2_with fail
  refine (l03Seg_any tag _ [Dk, Dn] _ (row2s w2 Dk Dn (by omega) (by omega)) (by simp)).mono ?_
  rintro e w3 ⟨u3, vals3, rfl, hO3, hb3⟩
  obtain ⟨A3, N3, C3, hu3⟩ := row_slice hO3.row
  subst hu3
  have H3 : Hid (RY w.heap.size w w3 ∧ OwnV (w.heap.size + 1) w3 (.slice A3 N3 C3) vals3 ([Dk, Dn].map fun t => [t])) := ⟨H2.out.below (((Below.refl _ w2).alloc (Nat.le_refl _) _).trans (hb3.mono (by simp))), hO3.mono (by have := H2.out.lt; simp; omega)⟩
  obtain ⟨r0, r1, rz⟩ := H3.out.1.cells
  clear hb3 hO3
  go_wp2
  exact bodyPost_ret (v := .agg #[.string tag, .slice A3 N3 C3]) (by simp [results, Tryd.results16, go_sem, r0, r1]) rfl ⟨_, vals3, rfl, (by rw [HD.out.1, HD.out.2]; exact ((H3.out.2.set (B := w.heap.size) (by omega) 0 (.string tag)).set (B := w.heap.size) (by omega) 1 (.slice A3 N3 C3)).mono (n₀ := w.heap.size) (by omega)), (H3.out.1.bel.setCell (Nat.le_refl _) _).setCell (Nat.le_refl _) _⟩
set_option maxRecDepth 20000 in
set_option maxHeartbeats 8000000 in
theorem ixSegments_spec (m : Ixc) (v : Value) (w : World) (h : RI w v m) (hB : BdI 1048576 m) :
    Calls Tryd.prog 6 #[.agg #[.string m.frm, .string m.to, .int .i64 m.num, v]] w fun e w' => ∃ u ps, e = .returned u ∧ OwnL w.heap.size w' u ps (ixSegsR m) ∧ Below w.heap.size w w' := by
  obtain ⟨A, C, rfl⟩ := h.ls.val
  obtain ⟨frm, tt, num, buns⟩ := m
  dsimp only at h ⊢
  have b0 : Below w.heap.size w ((w.alloc (.cells #[.string frm, .string tt, .int .i64 num, .slice A buns.length C] 25)).alloc (.cells #[] 33)) := ((Below.refl _ _).alloc (Nat.le_refl _) _).alloc (by simp) _
  have HR : Hid (RI ((w.alloc (.cells #[.string frm, .string tt, .int .i64 num, .slice A buns.length C] 25)).alloc (.cells #[] 33)) (.slice A buns.length C) ⟨frm, tt, num, buns⟩ ∧ Below w.heap.size w ((w.alloc (.cells #[.string frm, .string tt, .int .i64 num, .slice A buns.length C] 25)).alloc (.cells #[] 33)) ∧ ((w.alloc (.cells #[.string frm, .string tt, .int .i64 num, .slice A buns.length C] 25)).alloc (.cells #[] 33)).heap[w.heap.size + 1]? = some (.cells #[] 33)) := ⟨h.below b0, b0, heap_new2 w _ _⟩
  have x0 : ((w.alloc (.cells #[.string frm, .string tt, .int .i64 num, .slice A buns.length C] 25)).alloc (.cells #[] 33)).cell? ⟨w.heap.size, 0, none⟩ = some (.string frm) := by simp [go_sem]
  have x1 : ((w.alloc (.cells #[.string frm, .string tt, .int .i64 num, .slice A buns.length C] 25)).alloc (.cells #[] 33)).cell? ⟨w.heap.size, 1, none⟩ = some (.string tt) := by simp [go_sem]
  have x2 : ((w.alloc (.cells #[.string frm, .string tt, .int .i64 num, .slice A buns.length C] 25)).alloc (.cells #[] 33)).cell? ⟨w.heap.size, 2, none⟩ = some (.int .i64 num) := by simp [go_sem]
  have x3 : ((w.alloc (.cells #[.string frm, .string tt, .int .i64 num, .slice A buns.length C] 25)).alloc (.cells #[] 33)).cell? ⟨w.heap.size, 3, none⟩ = some (.slice A buns.length C) := by simp [go_sem]
  have HX0 : Hid (RowB w (.slice A buns.length C) buns) := h.ls
  have HXB : Hid (((w.alloc (.cells #[.string frm, .string tt, .int .i64 num, .slice A buns.length C] 25)).alloc (.cells #[] 33)).heap[w.heap.size]? = some (.cells #[.string frm, .string tt, .int .i64 num, .slice A buns.length C] 25)) := (Below.heap_alloc _ _ _ (by simp)).trans (World.alloc_heap_new w _)
  clear h b0
  go_enter Tryd.func6, Tryd.ntmps6
  go_wp2_with fail
  generalize ((w.alloc (.cells #[.string frm, .string tt, .int .i64 num, .slice A buns.length C] 25)).alloc (.cells #[] 33)) = W0 at *
  refine (ixRight_spec ⟨frm, tt, num, buns⟩ _ _ HR.out.1 hB).mono ?_
  rintro e w1 ⟨rfl, hb1⟩
  have H1 : Hid (RI w1 (.slice A buns.length C) ⟨frm, tt, num, buns⟩ ∧ Below w.heap.size w w1 ∧ w1.heap[w.heap.size + 1]? = some (.cells #[] 33) ∧ w1.heap[w.heap.size]? = some (.cells #[.string frm, .string tt, .int .i64 num, .slice A buns.length C] 25)) := ⟨HR.out.1.below hb1, HR.out.2.1.trans (hb1.mono HR.out.2.1.size), (hb1.block _ (Array.getElem?_eq_some_iff.1 HR.out.2.2).1).trans HR.out.2.2, (hb1.block _ (Array.getElem?_eq_some_iff.1 HXB.out).1).trans HXB.out⟩
  have y0 := (hb1.cell (cell_lt x0)).trans x0
  have y1 := (hb1.cell (cell_lt x1)).trans x1
  have y2 := (hb1.cell (cell_lt x2)).trans x2
  have y3 := (hb1.cell (cell_lt x3)).trans x3
  clear hb1 x0 x1 x2 x3 HR
  have hnil : SX w w1 [(w.heap.size, .cells #[.string frm, .string tt, .int .i64 num, .slice A buns.length C] 25)] (.slice (some ⟨w.heap.size + 1, 0, none⟩) 0 0) [] [] := by
    refine ⟨⟨rfl, ⟨rfl, .inr ⟨w.heap.size + 1, 0, #[], rfl, by omega, H1.out.2.2.1, Nat.le_refl _, Nat.zero_le _, rfl, rfl⟩⟩, fun i p g hp => by simp at hp, fun i j p q _ hp => by simp at hp⟩, H1.out.2.1, fun q hq => ?_, fun q hq => ?_⟩
    · simp only [List.mem_cons, List.not_mem_nil, or_false] at hq
      subst hq
      exact H1.out.2.2.2
    · simp only [List.mem_cons, List.not_mem_nil, or_false] at hq
      subst hq
      exact ⟨_, _, rfl, by decide⟩
  have HN : Hid (SX w w1 [(w.heap.size, .cells #[.string frm, .string tt, .int .i64 num, .slice A buns.length C] 25)] (.slice (some ⟨w.heap.size + 1, 0, none⟩) 0 0) [] []) := hnil
  clear hnil
  cases hx : ixB ⟨frm, tt, num, buns⟩
  · go_wp2
    go_ret
    have e : ixSegsR ⟨frm, tt, num, buns⟩ = [] := by simp [ixSegsR, hx]
    exact ⟨_, [], rfl, by rw [e]; exact HN.out.own, H1.out.2.1⟩
  obtain ⟨hn0, hn1, hfz, htz, hml0, hml, hmr⟩ := ixB_facts hx
  dsimp only at hn0 hn1 hfz htz hml0 hml hmr
  obtain ⟨bA, oA, hAA⟩ : ∃ bA oA, A = some ⟨bA, oA, none⟩ := by
    obtain ⟨b', o', c', g', u', e', _⟩ := HX0.out.at hml0
    simp only [Value.slice.injEq] at e'
    exact ⟨_, _, e'.1⟩
  subst hAA
  have hres : Hid (ixSegsR ⟨frm, tt, num, buns⟩ = hdS tIXH [frm, tt, decS num] :: (buns.flatMap bunSegs ++ [hdS tIXT [decS buns.length, decS num]])) := by
    have : ixSegsR ⟨frm, tt, num, buns⟩ = ixSegs ⟨frm, tt, num, buns⟩ := by simp [ixSegsR, hx]
    exact this.trans rfl
  go_wp2_with fail
  refine (l03Head_any ⟨frm, tt, num, buns⟩ _ _ ⟨_, _, _, rfl⟩ (by dsimp only; omega) (by dsimp only; omega) (by dsimp only; omega) (by dsimp only; omega)).mono ?_
  rintro e w2 ⟨u2, vals2, rfl, hO2, hb2⟩
  obtain ⟨A2, N2, C2, hu2⟩ := row_slice hO2.row
  subst hu2
  have z2 := hb2.size
  have H2 : Hid (OwnL w1.heap.size (w2.alloc (.cells #[.string tIXH, .slice A2 N2 C2] 33)) (.slice (some ⟨w2.heap.size, 0, none⟩) 1 1) [(.slice A2 N2 C2, vals2)] [hdS tIXH [frm, tt, decS num]] ∧ Below w1.heap.size w1 (w2.alloc (.cells #[.string tIXH, .slice A2 N2 C2] 33))) := ⟨OwnL.one hO2 z2, hb2.trans (((Below.refl _ w2).alloc (Nat.le_refl _) _).mono z2)⟩
  clear hb2 hO2 y0 y1 y2 y3
  generalize hH0 : hdS tIXH [frm, tt, decS num] = H0 at *
  clear hH0
  generalize hLV : Value.slice (some ⟨w.heap.size + 1, 0, none⟩) 0 0 = LV at *
  clear hLV
  have tok1 : True := trivial
  go_wp2_with (at_builtin; have _t := tok1; have hsx := @wpList_sx; apply hsx (w := w) (W := w1) (bx := [(w.heap.size, .cells #[.string frm, .string tt, .int .i64 num, .slice (some ⟨bA, oA, none⟩) buns.length C] 25)]) (lv := LV) (mv := .slice (some ⟨w2.heap.size, 0, none⟩) 1 1) (ps := []) (qs := [(.slice A2 N2 C2, vals2)]) (gs := []) (hs := [H0]) rfl _ _ rfl rfl rfl HN.out H2.out.2 H2.out.1 (by simp) (by simp); clear hsx; intro A4 C4 w4 hS4; have H4 : Hid (SX w w4 [(w.heap.size, .cells #[.string frm, .string tt, .int .i64 num, .slice (some ⟨bA, oA, none⟩) buns.length C] 25)] (.slice A4 (([]).length + ([H0]).length) C4) ([] ++ [(.slice A2 N2 C2, vals2)]) ([] ++ [H0])) := hS4; clear tok1 hS4)
  go_loopw [3, 4] (fun l i wr => ∃ (k : Nat) (ps : List (Value × List Value)), i = .int .i64 (k : Int) ∧ k ≤ buns.length ∧ SX w wr [(w.heap.size, .cells #[.string frm, .string tt, .int .i64 num, .slice (some ⟨bA, oA, none⟩) buns.length C] 25)] l ps (H0 :: (buns.take k).flatMap bunSegs)) (fun _ i _ => buns.length - (intOf i).toNat)
  case atStart => exact ⟨0, _, rfl, by omega, H4.out⟩
  case round =>
    obtain ⟨k, ps, rfl, hk, hL⟩ := hrel
    obtain ⟨Al, Cl, hlv⟩ := hL.own.slice
    have hfl := flat_len2 (l := buns.take k) fun g hg => hmr g (List.mem_of_mem_take hg)
    have htk : (buns.take k).length ≤ 5 := by rw [List.length_take]; omega
    obtain ⟨F0, hF0⟩ : ∃ F0, H0 :: (buns.take k).flatMap bunSegs = F0 := ⟨_, rfl⟩
    have hFl : F0.length ≤ 2111 := by rw [← hF0, List.length_cons]; omega
    rw [hF0] at hlv hL
    have HF0 : Hid (H0 :: (buns.take k).flatMap bunSegs = F0) := hF0
    clear hF0 hfl
    obtain ⟨N, hN⟩ : ∃ N, F0.length = N := ⟨_, rfl⟩
    have HN' : Hid (F0.length = N) := hN
    have hNl : N ≤ 2111 := by omega
    rw [hN] at hlv
    clear hN
    subst hlv
    have y2 : wr.cell? ⟨w.heap.size, 2, none⟩ = some (.int .i64 num) := hL.cell (cs := #[.string frm, .string tt, .int .i64 num, .slice (some ⟨bA, oA, none⟩) buns.length C]) (t := 25) (by simp) rfl
    have y3 : wr.cell? ⟨w.heap.size, 3, none⟩ = some (.slice (some ⟨bA, oA, none⟩) buns.length C) := hL.cell (cs := #[.string frm, .string tt, .int .i64 num, .slice (some ⟨bA, oA, none⟩) buns.length C]) (t := 25) (by simp) rfl
    by_cases hlt : k < buns.length
    · have hlt' : (k : Int) < (buns.length : Int) := by omega
      obtain ⟨b, o, cap', g, u, e, hs, ⟨q0, q1, q2⟩, hM⟩ := (HX0.out.below hL.bel).at hlt
      obtain ⟨_, _, _, g', u', e', hs', ⟨p0, p1, p2⟩, hM0⟩ := HX0.out.at hlt
      simp only [Value.slice.injEq, Option.some.injEq, Addr.mk.injEq, and_true, true_and] at e e'
      obtain ⟨⟨rfl, rfl⟩, rfl⟩ := e
      obtain ⟨⟨rfl, rfl⟩, rfl⟩ := e'
      rw [hs] at hs'
      cases hs'
      have hu : u = u' := by
        have := (hL.bel.cell (p := ⟨bA, oA + k * 3 + 2, none⟩) (cell_lt p2)).trans p2
        rw [q2] at this
        exact Option.some.inj this
      subst hu
      obtain ⟨gn0, gn1, gk0, gk1, gml0, gml, gmr⟩ := bunB_facts (hmr g (List.mem_of_getElem? hs))
      obtain ⟨bN, oN, cb, _, _, hvu, _⟩ := hM.ls.at gml0
      subst hvu
      have hbox := hL.box #[.int .i64 g.kind, .int .i64 g.num, .slice (some ⟨bN, oN, none⟩) g.msgs.length cb] 48 (by decide)
      have hzB : (wr.alloc (.cells #[.int .i64 g.kind, .int .i64 g.num, .slice (some ⟨bN, oN, none⟩) g.msgs.length cb] 48)).heap.size = wr.heap.size + 1 := by simp
      have d0 : (wr.alloc (.cells #[.int .i64 g.kind, .int .i64 g.num, .slice (some ⟨bN, oN, none⟩) g.msgs.length cb] 48)).cell? ⟨wr.heap.size, 0, none⟩ = some (.int .i64 g.kind) := by simp [go_sem]
      have d1 : (wr.alloc (.cells #[.int .i64 g.kind, .int .i64 g.num, .slice (some ⟨bN, oN, none⟩) g.msgs.length cb] 48)).cell? ⟨wr.heap.size, 1, none⟩ = some (.int .i64 g.num) := by simp [go_sem]
      have d2 : (wr.alloc (.cells #[.int .i64 g.kind, .int .i64 g.num, .slice (some ⟨bN, oN, none⟩) g.msgs.length cb] 48)).cell? ⟨wr.heap.size, 2, none⟩ = some (.slice (some ⟨bN, oN, none⟩) g.msgs.length cb) := by simp [go_sem]
      have HGM : Hid (RowM w (.slice (some ⟨bN, oN, none⟩) g.msgs.length cb) g.msgs ∧ buns[k]? = some g) := ⟨hM0.ls, hs⟩
      clear hL hM hM0 hs p0 p1 p2
      go_wp2_with fail
      generalize hB1 : wr.heap.size = B1 at *
      clear hB1
      generalize (wr.alloc (.cells #[.int .i64 g.kind, .int .i64 g.num, .slice (some ⟨bN, oN, none⟩) g.msgs.length cb] 48)) = W1 at *
      have HS : Hid (SX w W1 [(B1, .cells #[.int .i64 g.kind, .int .i64 g.num, .slice (some ⟨bN, oN, none⟩) g.msgs.length cb] 48), (w.heap.size, .cells #[.string frm, .string tt, .int .i64 num, .slice (some ⟨bA, oA, none⟩) buns.length C] 25)] (.slice Al N Cl) ps F0) := hbox
      clear hbox
      refine (l03Two_any tGRH g.kind g.num _ (by omega) (by omega) (by omega) (by omega)).mono ?_
      rintro e w3 ⟨u3, vals3, rfl, hO3, hb3⟩
      obtain ⟨A3, N3, C3, hu3⟩ := row_slice hO3.row
      subst hu3
      have z3 := hb3.size
      obtain ⟨HB, hHB⟩ : ∃ HB, hdS tGRH [decS g.kind, decS g.num] = HB := ⟨_, rfl⟩
      have H3 : Hid (OwnL W1.heap.size (w3.alloc (.cells #[.string tGRH, .slice A3 N3 C3] 33)) (.slice (some ⟨w3.heap.size, 0, none⟩) 1 1) [(.slice A3 N3 C3, vals3)] [HB] ∧ Below W1.heap.size W1 (w3.alloc (.cells #[.string tGRH, .slice A3 N3 C3] 33))) := ⟨by rw [← hHB]; exact OwnL.one hO3 z3, hb3.trans (((Below.refl _ w3).alloc (Nat.le_refl _) _).mono z3)⟩
      have HHB : Hid (hdS tGRH [decS g.kind, decS g.num] = HB) := hHB
      clear hb3 hO3 hHB
      have tok1 : True := trivial
      go_wp2_with (at_builtin; have _t := tok1; have hsx := @wpList_sx; apply hsx (w := w) (W := W1) (bx := [(B1, .cells #[.int .i64 g.kind, .int .i64 g.num, .slice (some ⟨bN, oN, none⟩) g.msgs.length cb] 48), (w.heap.size, .cells #[.string frm, .string tt, .int .i64 num, .slice (some ⟨bA, oA, none⟩) buns.length C] 25)]) (lv := .slice Al N Cl) (mv := .slice (some ⟨w3.heap.size, 0, none⟩) 1 1) (ps := ps) (qs := [(.slice A3 N3 C3, vals3)]) (gs := F0) (hs := [HB]) rfl _ _ rfl rfl rfl HS.out H3.out.2 H3.out.1 (by simp; omega) (by simp); clear hsx; intro A5 C5 w5 hS4; have H5 : Hid (SX w w5 [(B1, .cells #[.int .i64 g.kind, .int .i64 g.num, .slice (some ⟨bN, oN, none⟩) g.msgs.length cb] 48), (w.heap.size, .cells #[.string frm, .string tt, .int .i64 num, .slice (some ⟨bA, oA, none⟩) buns.length C] 25)] (.slice A5 ((F0).length + ([HB]).length) C5) (ps ++ [(.slice A3 N3 C3, vals3)]) (F0 ++ [HB])) := hS4; clear tok1 hS4)
      generalize hwo : wr = wo at *
      clear hwo
      go_loopw [3, 6] (fun l i wr => ∃ (k2 : Nat) (ps : List (Value × List Value)), i = .int .i64 (k2 : Int) ∧ k2 ≤ g.msgs.length ∧ SX w wr [(B1, .cells #[.int .i64 g.kind, .int .i64 g.num, .slice (some ⟨bN, oN, none⟩) g.msgs.length cb] 48), (w.heap.size, .cells #[.string frm, .string tt, .int .i64 num, .slice (some ⟨bA, oA, none⟩) buns.length C] 25)] l ps ((F0 ++ [HB]) ++ (g.msgs.take k2).flatMap msgSegs)) (fun _ i _ => g.msgs.length - (intOf i).toNat)
      case atStart => exact ⟨0, _, rfl, by omega, by rw [List.take_zero, List.flatMap_nil, List.append_nil]; exact H5.out⟩
      case round =>
        obtain ⟨k2, ps2, rfl, hk2, hL⟩ := hrel
        obtain ⟨Al2, Cl2, hlv⟩ := hL.own.slice
        have hfl := flat_len (l := g.msgs.take k2) fun q hq => gmr q (List.mem_of_mem_take hq)
        have htk2 : (g.msgs.take k2).length ≤ 10 := by rw [List.length_take]; omega
        obtain ⟨F1, hF1⟩ : ∃ F1, (F0 ++ [HB]) ++ (g.msgs.take k2).flatMap msgSegs = F1 := ⟨_, rfl⟩
        have hFl1 : F1.length ≤ 2600 := by rw [← hF1, List.length_append, List.length_append, List.length_singleton]; omega
        rw [hF1] at hlv hL
        have HF1 : Hid ((F0 ++ [HB]) ++ (g.msgs.take k2).flatMap msgSegs = F1) := hF1
        clear hF1 hfl
        subst hlv
        have e1 : wr.cell? ⟨B1, 1, none⟩ = some (.int .i64 g.num) := hL.cell (cs := #[.int .i64 g.kind, .int .i64 g.num, .slice (some ⟨bN, oN, none⟩) g.msgs.length cb]) (t := 48) (by simp) rfl
        have e2 : wr.cell? ⟨B1, 2, none⟩ = some (.slice (some ⟨bN, oN, none⟩) g.msgs.length cb) := hL.cell (cs := #[.int .i64 g.kind, .int .i64 g.num, .slice (some ⟨bN, oN, none⟩) g.msgs.length cb]) (t := 48) (by simp) rfl
        by_cases hlt2 : k2 < g.msgs.length
        · have hlt2' : (k2 : Int) < (g.msgs.length : Int) := by omega
          obtain ⟨b2, o2, cap2, m, u2', e, hs, ⟨q0', q1'⟩, hM⟩ := (HGM.out.1.below hL.bel).at hlt2
          obtain ⟨b2', o2', cap2', m', u2'', e', hs', ⟨p0, p1⟩, hM0⟩ := HGM.out.1.at hlt2
          rw [hs] at hs'
          cases hs'
          simp only [Value.slice.injEq, Option.some.injEq, Addr.mk.injEq, and_true, true_and] at e e'
          obtain ⟨⟨rfl, rfl⟩, rfl⟩ := e
          obtain ⟨⟨rfl, rfl⟩, rfl⟩ := e'
          have hu : u2' = u2'' := by
            have := (hL.bel.cell (p := ⟨bN, oN + k2 * 2 + 1, none⟩) (cell_lt p1)).trans p1
            rw [q1'] at this
            exact Option.some.inj this
          subst hu
          obtain ⟨nm, cm, rfl⟩ := hM.ls.val
          obtain ⟨mn0, mn1, mbl, mbr⟩ := msgB_facts (gmr m (List.mem_of_getElem? hs))
          have hbox := hL.box #[.int .i64 m.num, .slice nm m.body.length cm] 50 (by decide)
          have i0 : (wr.alloc (.cells #[.int .i64 m.num, .slice nm m.body.length cm] 50)).cell? ⟨wr.heap.size, 0, none⟩ = some (.int .i64 m.num) := by simp [go_sem]
          have i1 : (wr.alloc (.cells #[.int .i64 m.num, .slice nm m.body.length cm] 50)).cell? ⟨wr.heap.size, 1, none⟩ = some (.slice nm m.body.length cm) := by simp [go_sem]
          have HMM : Hid (RowG w (.slice nm m.body.length cm) m.body ∧ g.msgs[k2]? = some m) := ⟨hM0.ls, hs⟩
          clear hL hM hM0 hs p0 p1
          go_wp2_with fail
          generalize hM1 : wr.heap.size = M1 at *
          clear hM1
          generalize (wr.alloc (.cells #[.int .i64 m.num, .slice nm m.body.length cm] 50)) = W2 at *
          have HS2 : Hid (SX w W2 [(M1, .cells #[.int .i64 m.num, .slice nm m.body.length cm] 50), (B1, .cells #[.int .i64 g.kind, .int .i64 g.num, .slice (some ⟨bN, oN, none⟩) g.msgs.length cb] 48), (w.heap.size, .cells #[.string frm, .string tt, .int .i64 num, .slice (some ⟨bA, oA, none⟩) buns.length C] 25)] (.slice Al2 F1.length Cl2) ps2 F1) := hbox
          clear hbox
          refine (dec_any m.num _ (by omega) (by omega)).mono ?_
          rintro e w6 ⟨rfl, hb6⟩
          have sD := decS_size m.num (by omega) (by omega)
          have HS6 : Hid (SX w w6 [(M1, .cells #[.int .i64 m.num, .slice nm m.body.length cm] 50), (B1, .cells #[.int .i64 g.kind, .int .i64 g.num, .slice (some ⟨bN, oN, none⟩) g.msgs.length cb] 48), (w.heap.size, .cells #[.string frm, .string tt, .int .i64 num, .slice (some ⟨bA, oA, none⟩) buns.length C] 25)] (.slice Al2 F1.length Cl2) ps2 F1) := HS2.out.below hb6
          clear hb6
          obtain ⟨D, hD⟩ : ∃ D, decS m.num = D := ⟨_, rfl⟩
          rw [hD] at sD ⊢
          have HD : Hid (decS m.num = D) := hD
          clear hD
          go_wp2_with fail
          refine (l03Seg_any tMSH _ [D] _ (row1 w6 D (by omega)) (by simp)).mono ?_
          rintro e w7 ⟨u7, vals7, rfl, hO7, hb7⟩
          obtain ⟨A7, N7, C7, hu7⟩ := row_slice hO7.row
          subst hu7
          have z7 := hb7.size
          have hb7' : Below w6.heap.size w6 w7 := ((Below.refl _ w6).alloc (Nat.le_refl _) _).trans (hb7.mono (by simp))
          obtain ⟨HM, hHM⟩ : ∃ HM, hdS tMSH [D] = HM := ⟨_, rfl⟩
          have H7 : Hid (OwnL w6.heap.size (w7.alloc (.cells #[.string tMSH, .slice A7 N7 C7] 33)) (.slice (some ⟨w7.heap.size, 0, none⟩) 1 1) [(.slice A7 N7 C7, vals7)] [HM] ∧ Below w6.heap.size w6 (w7.alloc (.cells #[.string tMSH, .slice A7 N7 C7] 33))) := ⟨by rw [← hHM]; exact OwnL.one (hO7.mono (by simp)) hb7'.size, hb7'.trans (((Below.refl _ w7).alloc (Nat.le_refl _) _).mono hb7'.size)⟩
          have HHM : Hid (hdS tMSH [D] = HM) := hHM
          clear hb7 hb7' hO7 hHM z7
          have tok1 : True := trivial
          go_wp2_with (at_builtin; have _t := tok1; have hsx := @wpList_sx; apply hsx (w := w) (W := w6) (bx := [(M1, .cells #[.int .i64 m.num, .slice nm m.body.length cm] 50), (B1, .cells #[.int .i64 g.kind, .int .i64 g.num, .slice (some ⟨bN, oN, none⟩) g.msgs.length cb] 48), (w.heap.size, .cells #[.string frm, .string tt, .int .i64 num, .slice (some ⟨bA, oA, none⟩) buns.length C] 25)]) (lv := .slice Al2 F1.length Cl2) (mv := .slice (some ⟨w7.heap.size, 0, none⟩) 1 1) (ps := ps2) (qs := [(.slice A7 N7 C7, vals7)]) (gs := F1) (hs := [HM]) rfl _ _ rfl rfl rfl HS6.out H7.out.2 H7.out.1 (by simp; omega) (by simp); clear hsx; intro A8 C8 w8 hS4; have H8 : Hid (SX w w8 [(M1, .cells #[.int .i64 m.num, .slice nm m.body.length cm] 50), (B1, .cells #[.int .i64 g.kind, .int .i64 g.num, .slice (some ⟨bN, oN, none⟩) g.msgs.length cb] 48), (w.heap.size, .cells #[.string frm, .string tt, .int .i64 num, .slice (some ⟨bA, oA, none⟩) buns.length C] 25)] (.slice A8 ((F1).length + ([HM]).length) C8) (ps2 ++ [(.slice A7 N7 C7, vals7)]) (F1 ++ [HM])) := hS4; clear tok1 hS4)
          generalize hwo2 : wr = wo2 at *
          clear hwo2
          go_loopw [3, 8] (fun l i wr => ∃ (k3 : Nat) (ps : List (Value × List Value)), i = .int .i64 (k3 : Int) ∧ k3 ≤ m.body.length ∧ SX w wr [(M1, .cells #[.int .i64 m.num, .slice nm m.body.length cm] 50), (B1, .cells #[.int .i64 g.kind, .int .i64 g.num, .slice (some ⟨bN, oN, none⟩) g.msgs.length cb] 48), (w.heap.size, .cells #[.string frm, .string tt, .int .i64 num, .slice (some ⟨bA, oA, none⟩) buns.length C] 25)] l ps ((F1 ++ [HM]) ++ m.body.take k3)) (fun _ i _ => m.body.length - (intOf i).toNat)
          case atStart => exact ⟨0, _, rfl, by omega, by rw [List.take_zero, List.append_nil]; exact H8.out⟩
          case round =>
            obtain ⟨k3, ps3, rfl, hk3, hL⟩ := hrel
            obtain ⟨Al3, Cl3, hlv⟩ := hL.own.slice
            obtain ⟨F2, hF2⟩ : ∃ F2, (F1 ++ [HM]) ++ m.body.take k3 = F2 := ⟨_, rfl⟩
            have hFl2 : F2.length ≤ 2700 := by rw [← hF2, List.length_append, List.length_append, List.length_take, List.length_singleton]; omega
            rw [hF2] at hlv hL
            have HF2 : Hid ((F1 ++ [HM]) ++ m.body.take k3 = F2) := hF2
            clear hF2
            subst hlv
            have j0' : wr.cell? ⟨M1, 0, none⟩ = some (.int .i64 m.num) := hL.cell (cs := #[.int .i64 m.num, .slice nm m.body.length cm]) (t := 50) (by simp) rfl
            have j1' : wr.cell? ⟨M1, 1, none⟩ = some (.slice nm m.body.length cm) := hL.cell (cs := #[.int .i64 m.num, .slice nm m.body.length cm]) (t := 50) (by simp) rfl
            by_cases hlt3 : k3 < m.body.length
            · have hlt3' : (k3 : Int) < (m.body.length : Int) := by omega
              obtain ⟨b3, o3, cap3, s, us, e, hs, r0, r1, hE, _⟩ := (HMM.out.1.below hL.bel).at hlt3
              simp only [Value.slice.injEq, true_and] at e
              obtain ⟨rfl, rfl⟩ := e
              obtain ⟨ns, cs, rfl⟩ := hE.val
              obtain ⟨f1, f2, f3⟩ := right_bounds (mbr s (List.mem_of_getElem? hs))
              have HS3 : Hid (SX w wr [(M1, .cells #[.int .i64 m.num, .slice (some ⟨b3, o3, none⟩) m.body.length cm] 50), (B1, .cells #[.int .i64 g.kind, .int .i64 g.num, .slice (some ⟨bN, oN, none⟩) g.msgs.length cb] 48), (w.heap.size, .cells #[.string frm, .string tt, .int .i64 num, .slice (some ⟨bA, oA, none⟩) buns.length C] 25)] (.slice Al3 F2.length Cl3) ps3 F2 ∧ m.body[k3]? = some s ∧ RowE wr (.slice ns s.2.length cs) s.2) := ⟨hL, hs, hE⟩
              clear hL hs hE
              go_wp2_with fail
              refine (l03Copy_any s.1 _ s.2 _ HS3.out.2.2 f2 f3).mono ?_
              rintro e w9 ⟨u9, vals9, rfl, hO9, hb9⟩
              obtain ⟨A9, N9, C9, hu9⟩ := row_slice hO9.row
              subst hu9
              have z9 := hb9.size
              have H9 : Hid (OwnL wr.heap.size (w9.alloc (.cells #[.string s.1, .slice A9 N9 C9] 33)) (.slice (some ⟨w9.heap.size, 0, none⟩) 1 1) [(.slice A9 N9 C9, vals9)] [s] ∧ Below wr.heap.size wr (w9.alloc (.cells #[.string s.1, .slice A9 N9 C9] 33))) := ⟨OwnL.one hO9 z9, hb9.trans (((Below.refl _ w9).alloc (Nat.le_refl _) _).mono z9)⟩
              clear hb9 hO9 z9
              have tok1 : True := trivial
              go_wp2_with (at_builtin; have _t := tok1; have hsx := @wpList_sx; apply hsx (w := w) (W := wr) (bx := [(M1, .cells #[.int .i64 m.num, .slice (some ⟨b3, o3, none⟩) m.body.length cm] 50), (B1, .cells #[.int .i64 g.kind, .int .i64 g.num, .slice (some ⟨bN, oN, none⟩) g.msgs.length cb] 48), (w.heap.size, .cells #[.string frm, .string tt, .int .i64 num, .slice (some ⟨bA, oA, none⟩) buns.length C] 25)]) (lv := .slice Al3 F2.length Cl3) (mv := .slice (some ⟨w9.heap.size, 0, none⟩) 1 1) (ps := ps3) (qs := [(.slice A9 N9 C9, vals9)]) (gs := F2) (hs := [s]) rfl _ _ rfl rfl rfl HS3.out.1 H9.out.2 H9.out.1 (by simp; omega) (by simp); clear hsx; intro A10 C10 w10 hS4; have H10 : Hid (SX w w10 [(M1, .cells #[.int .i64 m.num, .slice (some ⟨b3, o3, none⟩) m.body.length cm] 50), (B1, .cells #[.int .i64 g.kind, .int .i64 g.num, .slice (some ⟨bN, oN, none⟩) g.msgs.length cb] 48), (w.heap.size, .cells #[.string frm, .string tt, .int .i64 num, .slice (some ⟨bA, oA, none⟩) buns.length C] 25)] (.slice A10 ((F2).length + ([s]).length) C10) (ps3 ++ [(.slice A9 N9 C9, vals9)]) (F2 ++ [s])) := hS4; clear tok1 hS4)
              go_roundw
              case rel =>
                refine ⟨k3 + 1, ps3 ++ [(.slice A9 N9 C9, vals9)], by go_num, by omega, ?_⟩
                have e1 : (F1 ++ [HM]) ++ m.body.take (k3 + 1) = F2 ++ [s] := by
                  rw [List.take_add_one, HS3.out.2.1, ← HF2.out]
                  simp
                rw [e1]
                exact H10.out
              case measure => simp [intOf]; omega
            · obtain rfl : k3 = m.body.length := by omega
              have HS3 : Hid (SX w wr [(M1, .cells #[.int .i64 m.num, .slice nm m.body.length cm] 50), (B1, .cells #[.int .i64 g.kind, .int .i64 g.num, .slice (some ⟨bN, oN, none⟩) g.msgs.length cb] 48), (w.heap.size, .cells #[.string frm, .string tt, .int .i64 num, .slice (some ⟨bA, oA, none⟩) buns.length C] 25)] (.slice Al3 F2.length Cl3) ps3 F2) := hL
              clear hL
              go_wp2_with fail
              refine (l03Two_any tMST (m.body.length : Int) m.num _ (by omega) (by omega) (by omega) (by omega)).mono ?_
              rintro e w3t ⟨u3t, vals3t, rfl, hO3, hb3⟩
              obtain ⟨A3t, N3t, C3t, hu3⟩ := row_slice hO3.row
              subst hu3
              have z3 := hb3.size
              obtain ⟨HT, hHH⟩ : ∃ HH, hdS tMST [decS (m.body.length : Int), decS m.num] = HH := ⟨_, rfl⟩
              have H3t : Hid (OwnL wr.heap.size (w3t.alloc (.cells #[.string tMST, .slice A3t N3t C3t] 33)) (.slice (some ⟨w3t.heap.size, 0, none⟩) 1 1) [(.slice A3t N3t C3t, vals3t)] [HT] ∧ Below wr.heap.size wr (w3t.alloc (.cells #[.string tMST, .slice A3t N3t C3t] 33))) := ⟨by rw [← hHH]; exact OwnL.one hO3 z3, hb3.trans (((Below.refl _ w3t).alloc (Nat.le_refl _) _).mono z3)⟩
              have HHT : Hid (hdS tMST [decS (m.body.length : Int), decS m.num] = HT) := hHH
              clear hb3 hO3 hHH z3
              have tok1 : True := trivial
              go_wp2_with (at_builtin; have _t := tok1; have hsx := @wpList_sx; apply hsx (w := w) (W := wr) (bx := [(M1, .cells #[.int .i64 m.num, .slice nm m.body.length cm] 50), (B1, .cells #[.int .i64 g.kind, .int .i64 g.num, .slice (some ⟨bN, oN, none⟩) g.msgs.length cb] 48), (w.heap.size, .cells #[.string frm, .string tt, .int .i64 num, .slice (some ⟨bA, oA, none⟩) buns.length C] 25)]) (lv := .slice Al3 F2.length Cl3) (mv := .slice (some ⟨w3t.heap.size, 0, none⟩) 1 1) (ps := ps3) (qs := [(.slice A3t N3t C3t, vals3t)]) (gs := F2) (hs := [HT]) rfl _ _ rfl rfl rfl HS3.out H3t.out.2 H3t.out.1 (by simp; omega) (by simp); clear hsx; intro A11 C11 w11 hS4; have H11 : Hid (SX w w11 [(M1, .cells #[.int .i64 m.num, .slice nm m.body.length cm] 50), (B1, .cells #[.int .i64 g.kind, .int .i64 g.num, .slice (some ⟨bN, oN, none⟩) g.msgs.length cb] 48), (w.heap.size, .cells #[.string frm, .string tt, .int .i64 num, .slice (some ⟨bA, oA, none⟩) buns.length C] 25)] (.slice A11 ((F2).length + ([HT]).length) C11) (ps3 ++ [(.slice A3t N3t C3t, vals3t)]) (F2 ++ [HT])) := hS4; clear tok1 hS4)
              go_roundw
              case rel =>
                refine ⟨k2 + 1, ps3 ++ [(.slice A3t N3t C3t, vals3t)], by go_num, by omega, ?_⟩
                have e1 : (F0 ++ [HB]) ++ (g.msgs.take (k2 + 1)).flatMap msgSegs = F2 ++ [HT] := by
                  rw [List.take_add_one, HMM.out.2, List.flatMap_append, ← HF2.out, ← HF1.out, ← HHM.out, ← HHT.out, ← HD.out, List.take_length]
                  simp [msgSegs]
                rw [e1]
                exact H11.out.less
              case measure => simp [intOf]; omega
        · obtain rfl : k2 = g.msgs.length := by omega
          have HS2 : Hid (SX w wr [(B1, .cells #[.int .i64 g.kind, .int .i64 g.num, .slice (some ⟨bN, oN, none⟩) g.msgs.length cb] 48), (w.heap.size, .cells #[.string frm, .string tt, .int .i64 num, .slice (some ⟨bA, oA, none⟩) buns.length C] 25)] (.slice Al2 F1.length Cl2) ps2 F1) := hL
          clear hL
          go_wp2_with fail
          refine (l03Two_any tGRT (g.msgs.length : Int) g.num _ (by omega) (by omega) (by omega) (by omega)).mono ?_
          rintro e w3t ⟨u3t, vals3t, rfl, hO3, hb3⟩
          obtain ⟨A3t, N3t, C3t, hu3⟩ := row_slice hO3.row
          subst hu3
          have z3 := hb3.size
          obtain ⟨HT, hHH⟩ : ∃ HH, hdS tGRT [decS (g.msgs.length : Int), decS g.num] = HH := ⟨_, rfl⟩
          have H3t : Hid (OwnL wr.heap.size (w3t.alloc (.cells #[.string tGRT, .slice A3t N3t C3t] 33)) (.slice (some ⟨w3t.heap.size, 0, none⟩) 1 1) [(.slice A3t N3t C3t, vals3t)] [HT] ∧ Below wr.heap.size wr (w3t.alloc (.cells #[.string tGRT, .slice A3t N3t C3t] 33))) := ⟨by rw [← hHH]; exact OwnL.one hO3 z3, hb3.trans (((Below.refl _ w3t).alloc (Nat.le_refl _) _).mono z3)⟩
          have HHT : Hid (hdS tGRT [decS (g.msgs.length : Int), decS g.num] = HT) := hHH
          clear hb3 hO3 hHH z3
          have tok1 : True := trivial
          go_wp2_with (at_builtin; have _t := tok1; have hsx := @wpList_sx; apply hsx (w := w) (W := wr) (bx := [(B1, .cells #[.int .i64 g.kind, .int .i64 g.num, .slice (some ⟨bN, oN, none⟩) g.msgs.length cb] 48), (w.heap.size, .cells #[.string frm, .string tt, .int .i64 num, .slice (some ⟨bA, oA, none⟩) buns.length C] 25)]) (lv := .slice Al2 F1.length Cl2) (mv := .slice (some ⟨w3t.heap.size, 0, none⟩) 1 1) (ps := ps2) (qs := [(.slice A3t N3t C3t, vals3t)]) (gs := F1) (hs := [HT]) rfl _ _ rfl rfl rfl HS2.out H3t.out.2 H3t.out.1 (by simp; omega) (by simp); clear hsx; intro A11 C11 w11 hS4; have H11 : Hid (SX w w11 [(B1, .cells #[.int .i64 g.kind, .int .i64 g.num, .slice (some ⟨bN, oN, none⟩) g.msgs.length cb] 48), (w.heap.size, .cells #[.string frm, .string tt, .int .i64 num, .slice (some ⟨bA, oA, none⟩) buns.length C] 25)] (.slice A11 ((F1).length + ([HT]).length) C11) (ps2 ++ [(.slice A3t N3t C3t, vals3t)]) (F1 ++ [HT])) := hS4; clear tok1 hS4)
          go_roundw
          case rel =>
            refine ⟨k + 1, ps2 ++ [(.slice A3t N3t C3t, vals3t)], by go_num, by omega, ?_⟩
            have e1 : H0 :: (buns.take (k + 1)).flatMap bunSegs = F1 ++ [HT] := by
              rw [List.take_add_one, HGM.out.2, List.flatMap_append, ← HF1.out, ← HF0.out, ← HHB.out, ← HHT.out, List.take_length]
              simp [bunSegs]
            rw [e1]
            exact H11.out.less
          case measure => simp [intOf]; omega
    · obtain rfl : k = buns.length := by omega
      have HS2 : Hid (SX w wr [(w.heap.size, .cells #[.string frm, .string tt, .int .i64 num, .slice (some ⟨bA, oA, none⟩) buns.length C] 25)] (.slice Al N Cl) ps F0) := hL
      clear hL
      go_wp2_with fail
      refine (l03Two_any tIXT (buns.length : Int) num _ (by omega) (by omega) (by omega) (by omega)).mono ?_
      rintro e w3t ⟨u3t, vals3t, rfl, hO3, hb3⟩
      obtain ⟨A3t, N3t, C3t, hu3⟩ := row_slice hO3.row
      subst hu3
      have z3 := hb3.size
      obtain ⟨HT, hHH⟩ : ∃ HH, hdS tIXT [decS (buns.length : Int), decS num] = HH := ⟨_, rfl⟩
      have H3t : Hid (OwnL wr.heap.size (w3t.alloc (.cells #[.string tIXT, .slice A3t N3t C3t] 33)) (.slice (some ⟨w3t.heap.size, 0, none⟩) 1 1) [(.slice A3t N3t C3t, vals3t)] [HT] ∧ Below wr.heap.size wr (w3t.alloc (.cells #[.string tIXT, .slice A3t N3t C3t] 33))) := ⟨by rw [← hHH]; exact OwnL.one hO3 z3, hb3.trans (((Below.refl _ w3t).alloc (Nat.le_refl _) _).mono z3)⟩
      have HHT : Hid (hdS tIXT [decS (buns.length : Int), decS num] = HT) := hHH
      clear hb3 hO3 hHH z3
      have tok1 : True := trivial
      go_wp2_with (at_builtin; have _t := tok1; have hsx := @wpList_sx; apply hsx (w := w) (W := wr) (bx := [(w.heap.size, .cells #[.string frm, .string tt, .int .i64 num, .slice (some ⟨bA, oA, none⟩) buns.length C] 25)]) (lv := .slice Al N Cl) (mv := .slice (some ⟨w3t.heap.size, 0, none⟩) 1 1) (ps := ps) (qs := [(.slice A3t N3t C3t, vals3t)]) (gs := F0) (hs := [HT]) rfl _ _ rfl rfl rfl HS2.out H3t.out.2 H3t.out.1 (by simp; omega) (by simp); clear hsx; intro A11 C11 w11 hS4; have H11 : Hid (SX w w11 [(w.heap.size, .cells #[.string frm, .string tt, .int .i64 num, .slice (some ⟨bA, oA, none⟩) buns.length C] 25)] (.slice A11 ((F0).length + ([HT]).length) C11) (ps ++ [(.slice A3t N3t C3t, vals3t)]) (F0 ++ [HT])) := hS4; clear tok1 hS4)
      go_ret
      refine ⟨_, ps ++ [(.slice A3t N3t C3t, vals3t)], rfl, ?_, H11.out.bel⟩
      have e1 : ixSegsR ⟨frm, tt, num, buns⟩ = F0 ++ [HT] := by
        rw [hres.out, ← HF0.out, ← HHT.out, List.take_length]
        simp
      rw [e1]
      exact H11.out.own
end Go.Proofs.YtjnikogaleofaaaDoor
