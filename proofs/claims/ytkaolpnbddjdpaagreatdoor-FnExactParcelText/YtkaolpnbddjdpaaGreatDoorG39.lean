/- Texts of ours put together: IxM. -/
import Derived.Test.YtkaolpnbddjdpaaGreatDoorG07
import Derived.Test.YtkaolpnbddjdpaaGreatDoorG38
import Derived.Test.YtkaolpnbddjdpaaGreatDoorG09
import Derived.Test.YtkaolpnbddjdpaaGreatDoorG26
import Derived.Deep.CutBlock
namespace Go.Proofs.YtkaolpnbddjdpaaGreatDoor
open Go.ChangeShapes Go.WideShapes Go.ChangeAt Go.RowKit
theorem msgB_facts {m : Msg} (h : msgB m = true) : 1 ≤ m.num ∧ m.num ≤ 999999 ∧ m.body.length ≤ 40 ∧ ∀ g ∈ m.body, rightG g.1 g.2 = true := by
  unfold msgB ctlB at h
  simp only [Bool.and_eq_true, decide_eq_true_eq, List.all_eq_true] at h
  refine ⟨h.1.1, h.1.2, h.2.1, fun g hg => ?_⟩
  have := h.2.2 g hg
  unfold bodyB at this
  simp only [Bool.and_eq_true] at this
  exact this.2
set_option maxRecDepth 20000 in
set_option maxHeartbeats 4000000 in
theorem msgTell_any (m : Msg) (v : Value) (w : World) (h : RM w v m) (hR : msgB m = true) (ht : TabOk w) :
    Calls Tryz.prog 147 #[.agg #[.int .i64 m.num, v]] w fun e w' => ∃ u ps, e = .returned u ∧ OwnL w.heap.size w' u ps (msgSegs m) ∧ Below w.heap.size w w' := by
  obtain ⟨num, body⟩ := m
  obtain ⟨hn0, hn1, hbl, hbr⟩ := msgB_facts hR
  obtain ⟨A, C, rfl⟩ := h.ls.val
  dsimp only at h hn0 hn1 hbl hbr ⊢
  have b0 : Below w.heap.size w (w.alloc (.cells #[.int .i64 num, .slice A body.length C] 182)) := (Below.refl _ _).alloc (Nat.le_refl _) _
  have HR : Hid (RowG (w.alloc (.cells #[.int .i64 num, .slice A body.length C] 182)) (.slice A body.length C) body ∧ Below w.heap.size w (w.alloc (.cells #[.int .i64 num, .slice A body.length C] 182)) ∧ TabOk w) := ⟨h.ls.below b0, b0, ht⟩
  have x0 : (w.alloc (.cells #[.int .i64 num, .slice A body.length C] 182)).cell? ⟨w.heap.size, 0, none⟩ = some (.int .i64 num) := by simp [go_sem]
  have x1 : (w.alloc (.cells #[.int .i64 num, .slice A body.length C] 182)).cell? ⟨w.heap.size, 1, none⟩ = some (.slice A body.length C) := by simp [go_sem]
  have xs : (w.alloc (.cells #[.int .i64 num, .slice A body.length C] 182)).heap.size = w.heap.size + 1 := by simp
  clear h b0 ht
  go_enter Tryz.func147, Tryz.ntmps147
  go_wp2_with fail
  generalize (w.alloc (.cells #[.int .i64 num, .slice A body.length C] 182)) = W0 at *
  have T0 : TabOk W0 := HR.out.2.2.below HR.out.2.1
  refine (digits_any num _ (by omega) (by omega) T0).mono ?_
  rintro e w1 ⟨rfl, hb1⟩
  have sD := decS_size num (by omega) (by omega)
  have hdn : Hid (msgSegs ⟨num, body⟩ = hdS tMSH [decS num] :: (body ++ [hdS tMST [decS body.length, decS num]])) := rfl
  generalize hD : decS num = D at *
  have HD : Hid (decS num = D) := hD
  clear hD
  have H1 : Hid (Below W0.heap.size W0 w1) := hb1
  clear hb1 T0
  go_wp2_with fail
  refine (segmentBy_any tMSH _ [D] _ (row1 w1 D (by omega)) (by simp) (by intro t ht; simp at ht; subst ht; omega)).mono ?_
  rintro e w2 ⟨u2, vals2, rfl, hO2, hb2⟩
  obtain ⟨A2, N2, C2, hu2⟩ := row_slice hO2.row
  subst hu2
  have z1 := H1.out.size
  have z2 := hb2.size
  have hw2 : Below W0.heap.size W0 w2 := H1.out.trans (((Below.refl _ w1).alloc (Nat.le_refl _) _).trans (hb2.mono (by simp)) |>.mono z1)
  have hL0 : OwnL W0.heap.size (w2.alloc (.cells #[.string tMSH, .slice A2 N2 C2] 90)) (.slice (some ⟨w2.heap.size, 0, none⟩) 1 1) [(.slice A2 N2 C2, vals2)] [(tMSH, [D].map fun t => [t])] := OwnL.one (hO2.mono (by simp at z2 ⊢; omega)) hw2.size
  have HL0 : Hid (OwnL W0.heap.size (w2.alloc (.cells #[.string tMSH, .slice A2 N2 C2] 90)) (.slice (some ⟨w2.heap.size, 0, none⟩) 1 1) [(.slice A2 N2 C2, vals2)] [hdS tMSH [D]] ∧ Below W0.heap.size W0 (w2.alloc (.cells #[.string tMSH, .slice A2 N2 C2] 90))) := ⟨hL0, hw2.trans (((Below.refl _ w2).alloc (Nat.le_refl _) _).mono hw2.size)⟩
  have x1a := (HL0.out.2.cell (cell_lt x1)).trans x1
  clear hb2 hO2 hL0 H1 hw2
  go_wp2_with fail
  go_loopw [3, 15] (fun l i wr => ∃ (k : Nat) (ps : List (Value × List Value)), i = .int .i64 (k : Int) ∧ k ≤ body.length ∧ OwnL W0.heap.size wr l ps (hdS tMSH [D] :: body.take k) ∧ Below W0.heap.size W0 wr) (fun _ i _ => body.length - (intOf i).toNat)
  case atStart => exact ⟨0, _, rfl, by omega, HL0.out.1, HL0.out.2⟩
  case round =>
    obtain ⟨k, ps, rfl, hk, hL, hb⟩ := hrel
    obtain ⟨Al, Cl, hlv⟩ := hL.slice
    have hll : (hdS tMSH [D] :: body.take k).length = k + 1 := by rw [List.length_cons, List.length_take]; omega
    rw [hll] at hlv
    subst hlv
    by_cases hlt : k < body.length
    · have hlt' : (k : Int) < (body.length : Int) := by omega
      obtain ⟨b, o, cap', g, u, e, hs, q0, q1, hE, _⟩ := (HR.out.1.below hb).at hlt
      simp only [Value.slice.injEq, true_and] at e
      obtain ⟨rfl, rfl⟩ := e
      obtain ⟨ne, ce, rfl⟩ := hE.val
      obtain ⟨f1, f2, f3⟩ := right_bounds (hbr g (List.mem_of_getElem? hs))
      have bE : Below wr.heap.size wr (wr.alloc (.cells #[.string g.1, .slice ne g.2.length ce] 90)) := (Below.refl _ _).alloc (Nat.le_refl _) _
      have HS : Hid (OwnL W0.heap.size wr (.slice Al (k + 1) Cl) ps (hdS tMSH [D] :: body.take k) ∧ Below W0.heap.size W0 wr ∧ body[k]? = some g ∧ RowE (wr.alloc (.cells #[.string g.1, .slice ne g.2.length ce] 90)) (.slice ne g.2.length ce) g.2 ∧ Below wr.heap.size wr (wr.alloc (.cells #[.string g.1, .slice ne g.2.length ce] 90))) := ⟨hL, hb, hs, hE.below bE, bE⟩
      have zb := hb.size
      clear hL hb hs hE bE
      go_wp2_with fail
      refine (copySeg_any g.1 _ g.2 _ HS.out.2.2.2.1 f2 (by omega) f3).mono ?_
      rintro e w3 ⟨u3, vals3, rfl, hO3, hb3⟩
      obtain ⟨A3, N3, C3, hu3⟩ := row_slice hO3.row
      subst hu3
      have z3 := hb3.size
      have hw3 : Below wr.heap.size wr w3 := HS.out.2.2.2.2.trans (hb3.mono (by simp))
      have hL3 : OwnL wr.heap.size (w3.alloc (.cells #[.string g.1, .slice A3 N3 C3] 90)) (.slice (some ⟨w3.heap.size, 0, none⟩) 1 1) [(.slice A3 N3 C3, vals3)] [g] := OwnL.one (hO3.mono (by simp)) hw3.size
      have H3 : Hid (OwnL wr.heap.size (w3.alloc (.cells #[.string g.1, .slice A3 N3 C3] 90)) (.slice (some ⟨w3.heap.size, 0, none⟩) 1 1) [(.slice A3 N3 C3, vals3)] [g] ∧ Below wr.heap.size wr (w3.alloc (.cells #[.string g.1, .slice A3 N3 C3] 90))) := ⟨hL3, hw3.trans (((Below.refl _ w3).alloc (Nat.le_refl _) _).mono hw3.size)⟩
      clear hb3 hO3 hL3 hw3
      have tok1 : True := trivial
      go_wp2_with (at_builtin; have _t := tok1; refine wpList_app rfl _ _ rfl rfl rfl HS.out.1 zb H3.out.2 H3.out.1 (by rw [hll]; simp; omega) (by simp) ?_; intro A4 C4 w4 hO4 hb4; rw [hll] at hO4 ⊢; have H4 : Hid (OwnL W0.heap.size w4 (.slice A4 (k + 1 + [g].length) C4) (ps ++ [(.slice A3 N3 C3, vals3)]) ((hdS tMSH [D] :: body.take k) ++ [g]) ∧ Below W0.heap.size W0 w4) := ⟨hO4, (HS.out.2.1.trans (H3.out.2.mono zb)).trans hb4⟩; clear tok1 hO4 hb4)
      go_roundw
      case rel =>
        refine ⟨k + 1, ps ++ [(.slice A3 N3 C3, vals3)], by go_num, by omega, ?_, H4.out.2⟩
        have e1 : hdS tMSH [D] :: body.take (k + 1) = (hdS tMSH [D] :: body.take k) ++ [g] := by
          rw [List.take_add_one, HS.out.2.2.1]
          rfl
        rw [e1]
        exact H4.out.1
      case measure => simp [intOf]; omega
    · obtain rfl : k = body.length := by omega
      rw [List.take_length] at hL hll
      have y0 := (hb.cell (cell_lt x0)).trans x0
      have y1 := (hb.cell (cell_lt x1)).trans x1
      have HS : Hid (OwnL W0.heap.size wr (.slice Al (body.length + 1) Cl) ps (hdS tMSH [D] :: body) ∧ Below W0.heap.size W0 wr ∧ TabOk wr) := ⟨hL, hb, HR.out.2.2.below (HR.out.2.1.trans (hb.mono HR.out.2.1.size))⟩
      have zb := hb.size
      clear hL hb
      go_wp2_with fail
      refine (trailer_any num (body.length : Int) tMST _ (by omega) (by omega) (by omega) (by omega) HS.out.2.2).mono ?_
      rintro e w3 ⟨u3, vals3, rfl, hO3, hb3⟩
      obtain ⟨A3, N3, C3, hu3⟩ := row_slice hO3.row
      subst hu3
      have z3 := hb3.size
      have hL3 : OwnL wr.heap.size (w3.alloc (.cells #[.string tMST, .slice A3 N3 C3] 90)) (.slice (some ⟨w3.heap.size, 0, none⟩) 1 1) [(.slice A3 N3 C3, vals3)] [hdS tMST [decS body.length, decS num]] := OwnL.one hO3 z3
      have H3 : Hid (OwnL wr.heap.size (w3.alloc (.cells #[.string tMST, .slice A3 N3 C3] 90)) (.slice (some ⟨w3.heap.size, 0, none⟩) 1 1) [(.slice A3 N3 C3, vals3)] [hdS tMST [decS body.length, decS num]] ∧ Below wr.heap.size wr (w3.alloc (.cells #[.string tMST, .slice A3 N3 C3] 90))) := ⟨hL3, hb3.trans (((Below.refl _ w3).alloc (Nat.le_refl _) _).mono z3)⟩
      clear hb3 hO3 hL3
      have tok1 : True := trivial
      go_wp2_with (at_builtin; have _t := tok1; refine wpList_app rfl _ _ rfl rfl rfl HS.out.1 zb H3.out.2 H3.out.1 (by rw [hll]; simp; omega) (by simp) ?_; intro A4 C4 w4 hO4 hb4; have H4 : Hid (OwnL W0.heap.size w4 (.slice A4 ((hdS tMSH [D] :: body).length + [hdS tMST [decS body.length, decS num]].length) C4) (ps ++ [(.slice A3 N3 C3, vals3)]) ((hdS tMSH [D] :: body) ++ [hdS tMST [decS body.length, decS num]]) ∧ Below W0.heap.size W0 w4) := ⟨hO4, (HS.out.2.1.trans (H3.out.2.mono zb)).trans hb4⟩; clear tok1 hO4 hb4)
      go_ret
      refine ⟨_, ps ++ [(.slice A3 N3 C3, vals3)], rfl, ?_, HR.out.2.1.trans (H4.out.2.mono HR.out.2.1.size)⟩
      rw [hdn.out, ← HD.out]
      have := H4.out.1
      rw [← HD.out] at this
      exact this.mono HR.out.2.1.size
theorem bunB_facts {m : Bun} (h : bunB m = true) : 1 ≤ m.num ∧ m.num ≤ 999999 ∧ 1 ≤ m.kind ∧ m.kind ≤ 7 ∧ 1 ≤ m.msgs.length ∧ m.msgs.length ≤ 10 ∧ ∀ g ∈ m.msgs, msgB g = true := by
  unfold bunB ctlB at h
  simp only [Bool.and_eq_true, decide_eq_true_eq, List.all_eq_true] at h
  exact ⟨h.1.1, h.1.2, h.2.1, h.2.2.1, h.2.2.2.1, h.2.2.2.2.1, h.2.2.2.2.2⟩
theorem msgSegs_len {m : Msg} (h : msgB m = true) : 2 ≤ (msgSegs m).length ∧ (msgSegs m).length ≤ 42 := by
  have := (msgB_facts h).2.2.1
  unfold msgSegs
  simp
  omega
theorem flat_len {l : List Msg} (h : ∀ g ∈ l, msgB g = true) : (l.flatMap msgSegs).length ≤ l.length * 42 := by
  induction l with
  | nil => simp
  | cons m l ih =>
    have h1 := (msgSegs_len (h m (by simp))).2
    have h2 := ih fun g hg => h g (by simp [hg])
    rw [List.flatMap_cons, List.length_append, List.length_cons]
    omega
set_option maxRecDepth 20000 in
set_option maxHeartbeats 4000000 in
theorem bunTell_any (m : Bun) (v : Value) (w : World) (h : RB w v m) (hR : bunB m = true) (ht : TabOk w) :
    Calls Tryz.prog 111 #[.agg #[.int .i64 m.num, .int .i64 m.kind, v]] w fun e w' => ∃ u ps, e = .returned u ∧ OwnL w.heap.size w' u ps (bunSegs m) ∧ Below w.heap.size w w' := by
  obtain ⟨kind, num, msgs⟩ := m
  obtain ⟨hn0, hn1, hk0, hk1, hml0, hml, hmr⟩ := bunB_facts hR
  obtain ⟨A, C, rfl⟩ := h.ls.val
  dsimp only at h hn0 hn1 hk0 hk1 hml0 hml hmr ⊢
  have b0 : Below w.heap.size w (w.alloc (.cells #[.int .i64 num, .int .i64 kind, .slice A msgs.length C] 151)) := (Below.refl _ _).alloc (Nat.le_refl _) _
  have HR : Hid (RowM (w.alloc (.cells #[.int .i64 num, .int .i64 kind, .slice A msgs.length C] 151)) (.slice A msgs.length C) msgs ∧ Below w.heap.size w (w.alloc (.cells #[.int .i64 num, .int .i64 kind, .slice A msgs.length C] 151)) ∧ TabOk w) := ⟨h.ls.below b0, b0, ht⟩
  have x0 : (w.alloc (.cells #[.int .i64 num, .int .i64 kind, .slice A msgs.length C] 151)).cell? ⟨w.heap.size, 0, none⟩ = some (.int .i64 num) := by simp [go_sem]
  have x1 : (w.alloc (.cells #[.int .i64 num, .int .i64 kind, .slice A msgs.length C] 151)).cell? ⟨w.heap.size, 1, none⟩ = some (.int .i64 kind) := by simp [go_sem]
  have x2 : (w.alloc (.cells #[.int .i64 num, .int .i64 kind, .slice A msgs.length C] 151)).cell? ⟨w.heap.size, 2, none⟩ = some (.slice A msgs.length C) := by simp [go_sem]
  clear h b0 ht
  have sk := decS_size kind (by omega) (by omega)
  have sn := decS_size num (by omega) (by omega)
  have hdn : Hid (bunSegs ⟨kind, num, msgs⟩ = hdS tGRH [decS kind, decS num] :: (msgs.flatMap msgSegs ++ [hdS tGRT [decS msgs.length, decS num]])) := rfl
  go_enter Tryz.func111, Tryz.ntmps111
  go_upto_region 1 with fail
  generalize (w.alloc (.cells #[.int .i64 num, .int .i64 kind, .slice A msgs.length C] 151)) = W0 at *
  go_cut [3] from 6 to 14 (fun l wc => ∃ ps, OwnL W0.heap.size wc l ps [hdS tGRH [decS kind, decS num]] ∧ Below W0.heap.size W0 wc)
  case first =>
    have T0 : Hid (TabOk W0) := HR.out.2.2.below HR.out.2.1
    generalize hDk : decS kind = Dk at *
    generalize hDn : decS num = Dn at *
    have HD : Hid (decS kind = Dk ∧ decS num = Dn) := ⟨hDk, hDn⟩
    clear hDk hDn
    go_wp2_with fail
    go_region_law (first | (go_simp; go_at_call 145; refine (fmt_any kind _ (by omega) (by omega) (by first | exact T0.out | exact T0.out.drew)).mono ?_; rintro e w1 ⟨rfl, hb⟩; rw [HD.out.1]; have hb1 : Below W0.heap.size W0 w1 := (by first | exact hb | exact (Below.refl _ _).drew.trans hb); clear hb; have y0 := (hb1.cell (cell_lt x0)).trans x0; have H1 : Hid (Below W0.heap.size W0 w1 ∧ TabOk w1) := ⟨hb1, T0.out.below hb1⟩; clear hb1; try dsimp only) | (go_simp; go_at_call 109; refine (digits_any num _ (by omega) (by omega) (by first | exact H1.out.2 | exact H1.out.2.drew)).mono ?_; rintro e w2 ⟨rfl, hb⟩; rw [HD.out.2]; have hb2 : Below w1.heap.size w1 w2 := (by first | exact hb | exact (Below.refl _ _).drew.trans hb); clear hb; have H2 : Hid (Below W0.heap.size W0 w2) := H1.out.1.trans (hb2.mono H1.out.1.size); clear hb2; try dsimp only) | (go_simp; go_at_call 108; refine (segmentBy_any tGRH _ [Dk, Dn] _ (by first | exact row2s w2 Dk Dn (by omega) (by omega) | exact (row2s w2 Dk Dn (by omega) (by omega)).below (Below.refl _ _).drew) (by simp) (by intro t ht; simp at ht; rcases ht with rfl | rfl <;> omega)).mono ?_; rintro e w3 ⟨u3, vals3, rfl, hO3, hb⟩; obtain ⟨A3, N3, C3, hu3⟩ := row_slice hO3.row; subst hu3; have hb3 : Below w2.heap.size w2 w3 := (((Below.refl _ w2).alloc (Nat.le_refl _) (.cells #[.string Dk, .string Dn] 9)).trans ((by first | exact hb | exact (Below.refl _ _).drew.trans hb : Below (w2.alloc (.cells #[.string Dk, .string Dn] 9)).heap.size (w2.alloc (.cells #[.string Dk, .string Dn] 9)) w3).mono (by simp))); have hw3 : Below W0.heap.size W0 w3 := H2.out.trans (hb3.mono H2.out.size); have H3 : Hid (OwnL W0.heap.size (w3.alloc (.cells #[.string tGRH, .slice A3 N3 C3] 90)) (.slice (some ⟨w3.heap.size, 0, none⟩) 1 1) [(.slice A3 N3 C3, vals3)] [hdS tGRH [Dk, Dn]] ∧ Below W0.heap.size W0 (w3.alloc (.cells #[.string tGRH, .slice A3 N3 C3] 90))) := ⟨OwnL.one (hO3.mono (by have := H2.out.size; simp; omega)) hw3.size, hw3.trans (((Below.refl _ w3).alloc (Nat.le_refl _) _).mono hw3.size)⟩; clear hb hb3 hO3 hw3; try dsimp only))
    all_goals
      go_wp2_with fail
      go_meet
      case rel => exact ⟨_, H3.out⟩
  case rest =>
    obtain ⟨ps0, hL0, hb0⟩ := hcut
    obtain ⟨Al0, Cl0, hl0⟩ := hL0.slice
    subst hl0
    have x2a := (hb0.cell (cell_lt x2)).trans x2
    have HL0 : Hid (OwnL W0.heap.size wc (.slice Al0 1 Cl0) ps0 [hdS tGRH [decS kind, decS num]] ∧ Below W0.heap.size W0 wc) := ⟨hL0, hb0⟩
    clear hL0 hb0
    generalize hDk : hdS tGRH [decS kind, decS num] = H0 at *
    have HH0 : Hid (hdS tGRH [decS kind, decS num] = H0) := hDk
    clear hDk
    go_wp2_with fail
    go_loopw [3, 18] (fun l i wr => ∃ (k : Nat) (ps : List (Value × List Value)), i = .int .i64 (k : Int) ∧ k ≤ msgs.length ∧ OwnL W0.heap.size wr l ps (H0 :: (msgs.take k).flatMap msgSegs) ∧ Below W0.heap.size W0 wr) (fun _ i _ => msgs.length - (intOf i).toNat)
    case atStart => exact ⟨0, _, rfl, by omega, HL0.out.1, HL0.out.2⟩
    case round =>
      obtain ⟨k, ps, rfl, hk, hL, hb⟩ := hrel
      obtain ⟨Al, Cl, hlv⟩ := hL.slice
      have hfl := flat_len (l := msgs.take k) fun g hg => hmr g (List.mem_of_mem_take hg)
      have htk : (msgs.take k).length ≤ 10 := by rw [List.length_take]; omega
      obtain ⟨N, hN⟩ : ∃ N, (H0 :: (msgs.take k).flatMap msgSegs).length = N := ⟨_, rfl⟩
      have hNl : N ≤ 421 := by rw [← hN, List.length_cons]; omega
      rw [hN] at hlv
      subst hlv
      by_cases hlt : k < msgs.length
      · have hlt' : (k : Int) < (msgs.length : Int) := by omega
        obtain ⟨b, o, cap', g, u, e, hs, ⟨q0, q1⟩, hM⟩ := (HR.out.1.below hb).at hlt
        simp only [Value.slice.injEq, true_and] at e
        obtain ⟨rfl, rfl⟩ := e
        obtain ⟨ne, ce, rfl⟩ := hM.ls.val
        have hgr := hmr g (List.mem_of_getElem? hs)
        obtain ⟨gl0, gl1⟩ := msgSegs_len hgr
        have bE : Below wr.heap.size wr (wr.alloc (.cells #[.int .i64 g.num, .slice ne g.body.length ce] 98)) := (Below.refl _ _).alloc (Nat.le_refl _) _
        have HS : Hid (OwnL W0.heap.size wr (.slice Al N Cl) ps (H0 :: (msgs.take k).flatMap msgSegs) ∧ Below W0.heap.size W0 wr ∧ msgs[k]? = some g ∧ RM (wr.alloc (.cells #[.int .i64 g.num, .slice ne g.body.length ce] 98)) (.slice ne g.body.length ce) g ∧ Below wr.heap.size wr (wr.alloc (.cells #[.int .i64 g.num, .slice ne g.body.length ce] 98)) ∧ TabOk wr) := ⟨hL, hb, hs, hM.below bE, bE, HR.out.2.2.below (HR.out.2.1.trans (hb.mono HR.out.2.1.size))⟩
        have zb := hb.size
        clear hL hb hs hM bE
        go_wp2_with fail
        refine (msgAround_any _ _ _ _ _).mono ?_
        rintro e w2 ⟨rfl, hb2⟩
        have H2 : Hid (Below wr.heap.size wr w2 ∧ RM w2 (.slice ne g.body.length ce) g) := ⟨HS.out.2.2.2.2.1.trans (hb2.mono (by simp)), HS.out.2.2.2.1.below hb2⟩
        clear hb2
        go_wp2_with fail
        refine (msgTell_any g _ _ H2.out.2 hgr (HS.out.2.2.2.2.2.below H2.out.1)).mono ?_
        rintro e w3 ⟨u3, qs, rfl, hO3, hb3⟩
        obtain ⟨A3, C3, hu3⟩ := hO3.slice
        subst hu3
        have H3 : Hid (OwnL wr.heap.size w3 (.slice A3 (msgSegs g).length C3) qs (msgSegs g) ∧ Below wr.heap.size wr w3) := ⟨hO3.mono H2.out.1.size, H2.out.1.trans (hb3.mono H2.out.1.size)⟩
        clear hO3 hb3
        have tok1 : True := trivial
        go_wp2_with (at_builtin; have _t := tok1; refine wpList_app rfl _ _ rfl rfl rfl HS.out.1 zb H3.out.2 H3.out.1 (by rw [hN]; omega) (by omega) ?_; intro A4 C4 w4 hO4 hb4; have H4 : Hid (OwnL W0.heap.size w4 (.slice A4 ((H0 :: (msgs.take k).flatMap msgSegs).length + (msgSegs g).length) C4) (ps ++ qs) ((H0 :: (msgs.take k).flatMap msgSegs) ++ msgSegs g) ∧ Below W0.heap.size W0 w4) := ⟨hO4, (HS.out.2.1.trans (H3.out.2.mono zb)).trans hb4⟩; clear tok1 hO4 hb4)
        go_roundw
        case rel =>
          refine ⟨k + 1, ps ++ qs, by go_num, by omega, ?_, H4.out.2⟩
          have e1 : H0 :: (msgs.take (k + 1)).flatMap msgSegs = (H0 :: (msgs.take k).flatMap msgSegs) ++ msgSegs g := by
            rw [List.take_add_one, HS.out.2.2.1, List.flatMap_append]
            simp
          rw [e1]
          have hH := H4.out.1
          rw [hN] at hH
          exact hH
        case measure => simp [intOf]; omega
      · obtain rfl : k = msgs.length := by omega
        rw [List.take_length] at hL hN
        have y0 := (hb.cell (cell_lt x0)).trans x0
        have y2 := (hb.cell (cell_lt x2)).trans x2
        have HS : Hid (OwnL W0.heap.size wr (.slice Al N Cl) ps (H0 :: msgs.flatMap msgSegs) ∧ Below W0.heap.size W0 wr ∧ TabOk wr) := ⟨hL, hb, HR.out.2.2.below (HR.out.2.1.trans (hb.mono HR.out.2.1.size))⟩
        have zb := hb.size
        clear hL hb
        go_wp2_with fail
        refine (trailer_any num (msgs.length : Int) tGRT _ (by omega) (by omega) (by omega) (by omega) HS.out.2.2).mono ?_
        rintro e w3 ⟨u3, vals3, rfl, hO3, hb3⟩
        obtain ⟨A3, N3, C3, hu3⟩ := row_slice hO3.row
        subst hu3
        have z3 := hb3.size
        have hL3 : OwnL wr.heap.size (w3.alloc (.cells #[.string tGRT, .slice A3 N3 C3] 90)) (.slice (some ⟨w3.heap.size, 0, none⟩) 1 1) [(.slice A3 N3 C3, vals3)] [hdS tGRT [decS msgs.length, decS num]] := OwnL.one hO3 z3
        have H3 : Hid (OwnL wr.heap.size (w3.alloc (.cells #[.string tGRT, .slice A3 N3 C3] 90)) (.slice (some ⟨w3.heap.size, 0, none⟩) 1 1) [(.slice A3 N3 C3, vals3)] [hdS tGRT [decS msgs.length, decS num]] ∧ Below wr.heap.size wr (w3.alloc (.cells #[.string tGRT, .slice A3 N3 C3] 90))) := ⟨hL3, hb3.trans (((Below.refl _ w3).alloc (Nat.le_refl _) _).mono z3)⟩
        clear hb3 hO3 hL3
        have tok1 : True := trivial
        go_wp2_with (at_builtin; have _t := tok1; refine wpList_app rfl _ _ rfl rfl rfl HS.out.1 zb H3.out.2 H3.out.1 (by rw [hN]; simp; omega) (by simp) ?_; intro A4 C4 w4 hO4 hb4; have H4 : Hid (OwnL W0.heap.size w4 (.slice A4 ((H0 :: msgs.flatMap msgSegs).length + [hdS tGRT [decS msgs.length, decS num]].length) C4) (ps ++ [(.slice A3 N3 C3, vals3)]) ((H0 :: msgs.flatMap msgSegs) ++ [hdS tGRT [decS msgs.length, decS num]]) ∧ Below W0.heap.size W0 w4) := ⟨hO4, (HS.out.2.1.trans (H3.out.2.mono zb)).trans hb4⟩; clear tok1 hO4 hb4)
        go_ret
        refine ⟨_, ps ++ [(.slice A3 N3 C3, vals3)], rfl, ?_, HR.out.2.1.trans (H4.out.2.mono HR.out.2.1.size)⟩
        rw [hdn.out]
        have hH := H4.out.1
        rw [hN] at hH
        exact hH.mono HR.out.2.1.size
end Go.Proofs.YtkaolpnbddjdpaaGreatDoor
