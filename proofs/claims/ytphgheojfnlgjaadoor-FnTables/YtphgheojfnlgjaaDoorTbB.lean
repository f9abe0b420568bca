/- Contract of the model's l04Body: some list of at most sixty-four segments, in memory of the call's own. -/
import Derived.Test.YtphgheojfnlgjaaDoorL02S
import Derived.Test.YtphgheojfnlgjaaDoorTbS
import Derived.Test.YtphgheojfnlgjaaDoorTbV
import Derived.Test.YtphgheojfnlgjaaDoorIxUa
import Derived.Test.YtphgheojfnlgjaaDoorInfoSg
namespace Go.Proofs.YtphgheojfnlgjaaDoor
open Go.ChangeShapes Go.WideShapes Go.ChangeAt Go.RowKit Go.Shelf
theorem rowsT_at {N gR L cR k : Nat} {W : World} {rs : List TRow} {r : TRow} (h : OwnT N W (.slice (some ⟨gR, 0, none⟩) L cR) rs) (hr : rs[k]? = some r) :
    W.cell? ⟨gR, k * 4, none⟩ = some (.string (bs r.tag)) ∧ W.cell? ⟨gR, k * 4 + 1, none⟩ = some (.int .i64 r.least) ∧ W.cell? ⟨gR, k * 4 + 2, none⟩ = some (.int .i64 r.most) ∧ W.cell? ⟨gR, k * 4 + 3, none⟩ = some (.string (bs r.form)) := by
  obtain ⟨A, C, e, h2⟩ := h.sl
  have hl := (List.getElem?_eq_some_iff.1 hr).1
  obtain ⟨b, off, rfl, hR⟩ := h2 (by omega)
  simp only [Value.slice.injEq, Option.some.injEq, Addr.mk.injEq, and_true] at e
  obtain ⟨⟨rfl, rfl⟩, _⟩ := e
  have := hR k r hr
  unfold RowAt at this
  rwa [Nat.zero_add] at this
theorem row_prefix {W : World} {N t z g n C i : Nat} {xs : List Value} (h : W.ownsRow N t z (.slice (some ⟨g, 0, none⟩) n C) n xs) (hi : i ≤ n) : W.ownsRow N t z (.slice (some ⟨g, 0, none⟩) i C) i (xs.take (i * z)) := by
  have hz : i * z ≤ n * z := Nat.mul_le_mul_right z hi
  refine ⟨by rw [List.length_take, h.1]; omega, .inr ?_⟩
  rcases h.2 with ⟨e1, _⟩ | ⟨g1, cap1, cur, e1, hb, hgg, h1, h2, h3, h4⟩
  · cases e1
  · simp only [Value.slice.injEq, Option.some.injEq, Addr.mk.injEq, and_true, true_and] at e1
    obtain ⟨rfl, rfl⟩ := e1
    refine ⟨g, C, cur, rfl, hb, hgg, by omega, h2, h3, ?_⟩
    rw [← h4, List.take_take]
    congr 1
    omega
theorem step_append_ownZ {P : Program} {w : World} {ops : Array Oper} {o : Oper} {a : Act} {K : Act → World → Prop} {Q : Exit → Act → World → Prop} {E : Prop} (hgd : o.guard = none) (s x : Operand) (t : TypeId)
    (ho : o.op = .call { callee := .builtin .append, args := #[s, x], argTypes := #[t, t] })
    (base : Nat) (e : TypeId) (i : TypeInfo) (z : Value) (size bytes : Nat) (ht : P.underlying t = some (.slice e)) (hi : P.info? e = some i) (hz : i.zero = some z)
    (hsize : i.size = size) (hby : i.bytes = bytes) (hzs : z.cells.size = size) (hsz : 0 < size)
    (v : Value) (n : Nat) (xs : List Value) (hs : a.eval s = v) (hown : w.ownsRow base e size v n xs)
    (ad : Addr) (m c : Nat) (news : List Value) (hx : a.eval x = .slice (some ad) m c) (hl : news.length = m * size) (hnews : ∀ j u, news[j]? = some u → w.cell? (ad.add j) = some u) (h1 : ∀ u ∈ news, u.oneCell' = true)
    (h63 : n + m ≤ maxLen) (hbytes : (n + m) * bytes ≤ 140737488355328) (hbase : base ≤ w.heap.size)
    (h : ∀ v' w', w'.ownsRow base e size v' (n + m) (xs ++ news) → w.grownBy w' v.ownBlock → (v' = .slice none 0 0 ↔ v = .slice none 0 0 ∧ m = 0) → K (a.put o.dst v') w') :
    if Region.wanted o (yielded ops a.tmps) = true then Oper.wp P o a w K Q else E := by
  have hw : Region.wanted o (yielded ops a.tmps) = true := by simp [Region.wanted, hgd]
  rw [if_pos hw]
  exact wp_append_own w s x t ho base e i z size bytes ht hi hz hsize hby hzs hsz v n xs hs hown ad m c news hx hl hnews h1 h63 hbytes hbase h
theorem LSt.lessD {B k g C : Nat} {w W w4 : World} {rv : Value} {n : Int} {v' : Value} {ps : List (Value × List Value)} {gs : List Seg} (h : LSt B w W rv n (.slice (some ⟨g, 0, none⟩) gs.length C) ps gs) (hk : k < gs.length) (hg : W.drew.grownBy w4 (Value.slice (some ⟨g, 0, none⟩) k C).ownBlock)
    (hown : w4.ownsRow w.heap.size 36 2 v' (k + (gs.length - (k + 1))) (cellsL (gs.take k) (ps.take k) ++ cellsL (gs.drop (k + 1)) (ps.drop (k + 1)))) : LSt B w w4 rv n v' (ps.take k ++ ps.drop (k + 1)) (gs.take k ++ gs.drop (k + 1)) :=
  h.less hk ⟨hg.os, hg.tape, hg.output, hg.size, hg.block⟩ hown
set_option maxRecDepth 20000 in
set_option maxHeartbeats 8000000 in
theorem l04Body_any (B : Nat) (n : Int) (w : World) (hS : IsSrc B w) :
    Calls Tryd.prog 13 #[.pointer (some ⟨B, 0, none⟩), .int .i64 n] w fun e w' => ∃ (v : Value) (ps : List (Value × List Value)) (gs : List Seg), e = .returned v ∧ gs.length ≤ 64 ∧ OwnWL w.heap.size w' v ps gs ∧ BdGs gs ∧ IsSrc B w' ∧ Keep B w w' := by
  have hlt := hS.lt
  have HS : Hid (IsSrc B w) := hS
  clear hS
  go_enter Tryd.func13, Tryd.ntmps13
  go_wp2_with fail
  refine (tableOf_spec n _).mono ?_
  rintro e w1 ⟨rv, rfl, hT, hb1⟩
  have hE1 : w1.heap[w.heap.size]? = some (.cells #[] 36) := (hb1.block w.heap.size (by simp)).trans (World.alloc_heap_new w _)
  obtain ⟨Ar, cR, hrv⟩ := sliceZ hT
  subst hrv
  have H1 : Hid (LSt B w w1 (.slice Ar (rowsI n).length cR) n (.slice (some ⟨w.heap.size, 0, none⟩) 0 0) [] []) :=
    ⟨((Keep.refl _ _).alloc _).trans (Keep.of_below hb1), (HS.out.below ((Below.refl _ _).alloc (by omega) _)).below (hb1.mono (by simp; omega)), rowz_mono hT (by simp), ⟨rfl, emptyZ hE1 (Nat.le_refl _), fun i p g h => by simp at h⟩, (fun g hg => by simp at hg), hlt⟩
  have hrl := rowsI_len n
  have hr3 : ((rowsI n).length : Int) ≤ 3 := by omega
  obtain ⟨j0, hj0i, hi0, hi1, hi2⟩ := info_parts infoSg
  obtain ⟨l0, hl0i, ki0, ki1, ki2⟩ := info_parts info9
  clear hT hb1 hE1
  go_upto_block 0 with fail
  go_cut [5, 7, 8, 9, 10, 11] from 16 to 127 (fun o _ _ _ _ _ wx => ∃ (ps : List (Value × List Value)) (gs : List Seg), gs.length ≤ 63 ∧ LSt B w wx (.slice Ar (rowsI n).length cR) n o ps gs)
  case first =>
    go_wp2_with fail
    go_loopw [5, 7, 8, 9, 10, 11] (fun o c _ _ _ _ wr => ∃ (k : Nat) (ps : List (Value × List Value)) (gs : List Seg), c = .int .i64 (k : Int) ∧ k ≤ (rowsI n).length ∧ gs.length ≤ 21 * k ∧ LSt B w wr (.slice Ar (rowsI n).length cR) n o ps gs) (fun _ c _ _ _ _ _ => (rowsI n).length - (intOf c).toNat)
    case atStart => exact ⟨0, _, _, rfl, by omega, by simp, H1.out⟩
    case round =>
      obtain ⟨k, ps, gs, rfl, hk, hgl, hL⟩ := hrel
      by_cases hkl : k < (rowsI n).length
      · have hkl' : (k : Int) < ((rowsI n).length : Int) := by omega
        obtain ⟨r, hr⟩ : ∃ r, (rowsI n)[k]? = some r := ⟨_, List.getElem?_eq_getElem hkl⟩
        obtain ⟨m0, m1, m2, m3, m4, m5⟩ := rowsI_ok n r (List.mem_of_getElem? hr)
        have HrN : Hid ((rowsI n)[k]? = some r) := hr
        obtain ⟨gR, hAr⟩ : ∃ gR, Ar = some ⟨gR, 0, none⟩ := by
          rcases hL.rows.2 with ⟨e1, h0⟩ | ⟨g1, cap1, cur1, e1, _⟩
          · rw [h0] at hkl; omega
          · simp only [Value.slice.injEq] at e1
            exact ⟨g1, e1.1⟩
        subst hAr
        have HL : Hid (LSt B w wr (.slice (some ⟨gR, 0, none⟩) (rowsI n).length cR) n u5 ps gs) := hL
        have HRR : Hid (∀ (W : World) (v : Value) (ps : List (Value × List Value)) (gs : List Seg), LSt B w W (.slice (some ⟨gR, 0, none⟩) (rowsI n).length cR) n v ps gs → W.cell? ⟨gR, k * 4, none⟩ = some (.string (bs r.tag)) ∧ W.cell? ⟨gR, k * 4 + 1, none⟩ = some (.int .i64 r.least) ∧ W.cell? ⟨gR, k * 4 + 2, none⟩ = some (.int .i64 r.most) ∧ W.cell? ⟨gR, k * 4 + 3, none⟩ = some (.string (bs r.form))) := fun W v ps gs h => rowsT_at h.rows HrN.out
        clear hL hr
        go_upto_region 6 with fail
        go_cut [8] from 22 to 29 (fun c wx => ∃ m : Nat, c = .int .i64 (m : Int) ∧ m ≤ 21 ∧ LSt B w wx (.slice (some ⟨gR, 0, none⟩) (rowsI n).length cR) n u5 ps gs)
        case first =>
          obtain ⟨q0, q1, q2, q3⟩ := HRR.out _ _ _ _ HL.out
          obtain ⟨q0d, q1d, q2d, q3d⟩ := HRR.out _ _ _ _ (HL.out.below (Below.refl _ _).drew)
          go_region_held3 (fun W => W.cell? ⟨gR, k * 4 + 1, none⟩ = some (.int .i64 r.least)) (go_keep) (first | (go_at_call 12; refine (n_any B 2 _ (by omega) (by omega) (by first | exact HL.out.src | exact HL.out.src.below (Below.refl _ _).drew)).mono ?_; rintro e w6 ⟨q6, rfl, hq60, hq61, hs6, hk6⟩; have hL6 : LSt B w w6 (.slice (some ⟨gR, 0, none⟩) (rowsI n).length cR) n u5 ps gs := (by first | exact HL.out.keep hk6 hs6 | exact (HL.out.below (Below.refl _ _).drew).keep hk6 hs6); obtain ⟨y0, y1, y2, y3⟩ := HRR.out _ _ _ _ hL6; obtain ⟨y0d, y1d, y2d, y3d⟩ := HRR.out _ _ _ _ (hL6.below (Below.refl _ _).drew); have HL6 : Hid (LSt B w w6 (.slice (some ⟨gR, 0, none⟩) (rowsI n).length cR) n u5 ps gs) := hL6; clear hL6 hs6 hk6; try dsimp only) | fail)
          all_goals rename_i hHeld
          all_goals clear hHeld
          all_goals go_wp2_with fail
          all_goals go_meet
          all_goals exact ⟨(r.least + q6).toNat, by rw [IntKind.wrap_i64]; congr 1; omega, by omega, HL6.out⟩
        case rest =>
          obtain ⟨ma, hma, hma1, hL⟩ := hcut
          subst hma
          rename World => wa
          have HL1 : Hid (LSt B w wa (.slice (some ⟨gR, 0, none⟩) (rowsI n).length cR) n u5 ps gs) := hL
          clear hL HL
          go_upto_region 7 with fail
          go_cut [39] from 30 to 39 (fun c wx => ∃ bb : Bool, c = .bool bb ∧ LSt B w wx (.slice (some ⟨gR, 0, none⟩) (rowsI n).length cR) n u5 ps gs)
          case first =>
            obtain ⟨q0, q1, q2, q3⟩ := HRR.out _ _ _ _ HL1.out
            by_cases hm : 1 < r.most
            · go_wp2_with fail
              refine (one_any B 40 _ (by omega) (by omega) HL1.out.src).mono ?_
              rintro e w7 ⟨b7, rfl, hs7, hk7⟩
              have HL7 : Hid (LSt B w w7 (.slice (some ⟨gR, 0, none⟩) (rowsI n).length cR) n u5 ps gs) := HL1.out.keep hk7 hs7
              clear hs7 hk7
              go_wp2_with fail
              go_meet
              exact ⟨b7, rfl, HL7.out⟩
            · go_wp2_with fail
              go_meet
              exact ⟨false, rfl, HL1.out⟩
          case rest =>
            obtain ⟨bb, hbb, hL⟩ := hcut
            subst hbb
            rename World => wb
            have HL2 : Hid (LSt B w wb (.slice (some ⟨gR, 0, none⟩) (rowsI n).length cR) n u5 ps gs) := hL
            clear hL HL1
            go_upto_if 39 with fail
            go_cut [8] from 40 to 47 (fun c wx => ∃ m : Nat, c = .int .i64 (m : Int) ∧ m ≤ 21 ∧ LSt B w wx (.slice (some ⟨gR, 0, none⟩) (rowsI n).length cR) n u5 ps gs)
            case first =>
              cases bb
              · go_wp2_with fail
                go_meet
                exact ⟨ma, rfl, hma1, HL2.out⟩
              · go_upto_region 8 with fail
                obtain ⟨q0, q1, q2, q3⟩ := HRR.out _ _ _ _ HL2.out
                obtain ⟨q0d, q1d, q2d, q3d⟩ := HRR.out _ _ _ _ (HL2.out.below (Below.refl _ _).drew)
                go_region_held3 (fun W => W.cell? ⟨gR, k * 4 + 2, none⟩ = some (.int .i64 r.most)) (go_keep) (first | (go_at_call 12; refine (n_any B 2 _ (by omega) (by omega) (by first | exact HL2.out.src | exact HL2.out.src.below (Below.refl _ _).drew)).mono ?_; rintro e w6 ⟨q6, rfl, hq60, hq61, hs6, hk6⟩; have hL6 : LSt B w w6 (.slice (some ⟨gR, 0, none⟩) (rowsI n).length cR) n u5 ps gs := (by first | exact HL2.out.keep hk6 hs6 | exact (HL2.out.below (Below.refl _ _).drew).keep hk6 hs6); obtain ⟨y0, y1, y2, y3⟩ := HRR.out _ _ _ _ hL6; obtain ⟨y0d, y1d, y2d, y3d⟩ := HRR.out _ _ _ _ (hL6.below (Below.refl _ _).drew); have HL6 : Hid (LSt B w w6 (.slice (some ⟨gR, 0, none⟩) (rowsI n).length cR) n u5 ps gs) := hL6; clear hL6 hs6 hk6; try dsimp only) | fail)
                all_goals rename_i hHeld
                all_goals clear hHeld
                all_goals go_wp2_with fail
                all_goals go_meet
                all_goals exact ⟨(r.most + q6).toNat, by rw [IntKind.wrap_i64]; congr 1; omega, by omega, HL6.out⟩
            case rest =>
              obtain ⟨mb, hmb, hmb1, hL⟩ := hcut
              subst hmb
              rename World => wc'
              have HL3 : Hid (LSt B w wc' (.slice (some ⟨gR, 0, none⟩) (rowsI n).length cR) n u5 ps gs) := hL
              clear hL HL2
              go_upto_region 9 with fail
              go_cut [59] from 48 to 59 (fun c wx => ∃ bb : Bool, c = .bool bb ∧ LSt B w wx (.slice (some ⟨gR, 0, none⟩) (rowsI n).length cR) n u5 ps gs)
              case first =>
                obtain ⟨q0, q1, q2, q3⟩ := HRR.out _ _ _ _ HL3.out
                by_cases hm : r.most < (mb : Int)
                · go_wp2_with fail
                  refine (one_any B 8 _ (by omega) (by omega) HL3.out.src).mono ?_
                  rintro e w7 ⟨b7, rfl, hs7, hk7⟩
                  have HL7 : Hid (LSt B w w7 (.slice (some ⟨gR, 0, none⟩) (rowsI n).length cR) n u5 ps gs) := HL3.out.keep hk7 hs7
                  clear hs7 hk7
                  go_wp2_with fail
                  go_meet
                  exact ⟨!b7, rfl, HL7.out⟩
                · go_wp2_with fail
                  go_meet
                  exact ⟨false, rfl, HL3.out⟩
              case rest =>
                obtain ⟨bc, hbc, hL⟩ := hcut
                subst hbc
                rename World => wd
                have HL4 : Hid (LSt B w wd (.slice (some ⟨gR, 0, none⟩) (rowsI n).length cR) n u5 ps gs) := hL
                clear hL HL3
                go_upto_if 59 with fail
                go_cut [8] from 60 to 64 (fun c wx => ∃ m : Nat, c = .int .i64 (m : Int) ∧ m ≤ 21 ∧ LSt B w wx (.slice (some ⟨gR, 0, none⟩) (rowsI n).length cR) n u5 ps gs)
                case first =>
                  cases bc
                  · go_wp2_with fail
                    go_meet
                    exact ⟨mb, rfl, hmb1, HL4.out⟩
                  · obtain ⟨q0, q1, q2, q3⟩ := HRR.out _ _ _ _ HL4.out
                    go_wp2_with fail
                    go_meet
                    exact ⟨r.most.toNat, by congr 1; omega, by omega, HL4.out⟩
                case rest =>
                  obtain ⟨mc, hmc, hmc1, hL⟩ := hcut
                  subst hmc
                  have HL5 : Hid (LSt B w wc (.slice (some ⟨gR, 0, none⟩) (rowsI n).length cR) n u5 ps gs) := hL
                  clear hL HL4
                  go_wp2_with fail
                  go_loopw [5, 8, 9, 10, 11] (fun o c _ _ _ wr => ∃ (m : Nat) (ps : List (Value × List Value)) (gs : List Seg), c = .int .i64 (m : Int) ∧ gs.length + m ≤ 21 * (k + 1) ∧ LSt B w wr (.slice (some ⟨gR, 0, none⟩) (rowsI n).length cR) n o ps gs) (fun _ c _ _ _ _ => (intOf c).toNat)
                  case atStart => exact ⟨mc, ps, gs, rfl, by omega, HL5.out⟩
                  case round =>
                    clear HL5
                    obtain ⟨m, ps, gs, rfl, hml, hL⟩ := hrel
                    rcases Nat.eq_zero_or_pos m with rfl | hm0
                    · have HL : Hid (LSt B w wr (.slice (some ⟨gR, 0, none⟩) (rowsI n).length cR) n u5 ps gs) := hL
                      clear hL
                      go_wp2_with fail
                      go_roundw
                      case rel => exact ⟨k + 1, ps, gs, by go_num, by omega, by omega, HL.out⟩
                      case measure => simp [intOf]; omega
                    · have hm0' : 0 < (m : Int) := by omega
                      have HL : Hid (LSt B w wr (.slice (some ⟨gR, 0, none⟩) (rowsI n).length cR) n u5 ps gs) := hL
                      obtain ⟨Ao, Co, ho⟩ := sliceZ hL.own.row
                      have hBw : B < wr.heap.size := by have := hL.kp.size; omega
                      subst ho
                      obtain ⟨wo, hwo⟩ : ∃ wo, wo = wr := ⟨_, rfl⟩
                      subst hwo
                      have P0 : Hid (PSt B wo (wo.alloc (.cells #[] 9)) (.slice (some ⟨wo.heap.size, 0, none⟩) 0 0) []) :=
                        ⟨(Keep.refl _ _).alloc _, hL.src.below ((Below.refl _ _).alloc (by omega) _), emptyZ (World.alloc_heap_new wo _) (Nat.le_refl _), (fun t ht => by simp at ht), hBw⟩
                      clear hL
                      go_upto_block 4 with fail
                      go_cut [9, 10, 11] from 70 to 96 (fun pv _ _ wx => ∃ ss : List ByteArray, ss.length ≤ 8 ∧ PSt B wo wx pv ss)
                      case first =>
                        go_wp2_with fail
                        go_loopw [9, 10, 11] (fun pv c _ wr => ∃ (kk : Nat) (ss : List ByteArray), c = .int .i64 (kk : Int) ∧ kk ≤ r.form.length ∧ ss.length ≤ kk ∧ PSt B wo wr pv ss) (fun _ c _ _ => r.form.length - (intOf c).toNat)
                        case atStart => exact ⟨0, [], rfl, by omega, by simp, P0.out⟩
                        case round =>
                          clear P0
                          obtain ⟨kk, ss, rfl, hkk, hsl, hP⟩ := hrel
                          obtain ⟨q0, q1, q2, q3⟩ := HRR.out _ _ _ _ (HL.out.keep hP.kp hP.src)
                          have hfz : (bs r.form).size = r.form.length := rfl
                          obtain ⟨Ap, Cp, hpv⟩ := sliceZ hP.row
                          have HP : Hid (PSt B wo wr (.slice Ap ss.length Cp) ss) := by rw [← hpv]; exact hP
                          subst hpv
                          clear hP
                          generalize hF : bs r.form = F at *
                          have HF : Hid (bs r.form = F) := hF
                          clear hF
                          by_cases hkf : kk < F.size
                          · have hkf' : (kk : Int) < (F.size : Int) := by omega
                            go_upto_region 18 with fail
                            obtain ⟨c, hc⟩ : ∃ c : Int, ((F[kk]'hkf).toNat : Int) = c := ⟨_, rfl⟩
                            rw [hc]
                            clear hc q0 q1 q2 q3 hfz
                            by_cases h63 : c = 63
                            · subst h63
                              go_wp2_with fail
                              refine (one_any B 2 _ (by omega) (by omega) HP.out.src).mono ?_
                              rintro e w7 ⟨b7, rfl, hs7, hk7⟩
                              have HP7 : Hid (PSt B wo w7 (.slice Ap ss.length Cp) ss) := HP.out.keep hk7 hs7
                              clear hs7 hk7 HP
                              cases b7
                              · go_wp2_with fail
                                go_roundw
                                case rel => exact ⟨kk + 1, ss, by go_num, by omega, by omega, HP7.out⟩
                                case measure => simp [intOf]; omega
                              · go_wp2_with fail
                                go_meet
                                exact ⟨ss, by omega, HP7.out⟩
                            · have h63' : (c == 63) = false := by rw [beq_eq_false_iff_ne]; exact h63
                              clear h63
                              go_wp2_with fail
                              refine (l04Value_any B c _ HP.out.src).mono ?_
                              rintro e w7 ⟨s7, rfl, hz7, hs7, hk7⟩
                              have HP7 : Hid (PSt B wo w7 (.slice Ap ss.length Cp) ss) := HP.out.keep hk7 hs7
                              have hl7 : wo.heap.size ≤ w7.heap.size := HP7.out.kp.size
                              clear hs7 hk7 HP
                              have hmx : ss.length + 1 ≤ maxLen := by unfold maxLen; omega
                              have tok1 : True := trivial
                              go_wp2_with (at_builtin; have _t := tok1; refine wpList_append_own _ rfl _ _ 53 rfl wo.heap.size 9 l0 (.string ⟨#[]⟩) 1 16 Tryd.underlying53 hl0i ki0 ki1 ki2 rfl (by decide) _ _ _ rfl (HP7.out.row.alloc _) ⟨_, 0, none⟩ 1 1 [.string s7] rfl rfl (cell_one_at _ _ _ _ (by simp)) (by simp [Value.oneCell']) hmx (by omega) (by simp; omega) ?_; intro u' w8 hown' hgrow _; have HP8 : Hid (PSt B wo w8 u' (ss ++ [s7])) := HP7.out.push hz7 hgrow hown'; clear tok1 hown' hgrow)
                              go_roundw
                              case rel => exact ⟨kk + 1, ss ++ [s7], by go_num, by omega, by simp; omega, HP8.out⟩
                              case measure => simp [intOf]; omega
                          · have hkf' : ¬ (kk : Int) < (F.size : Int) := by omega
                            go_wp2_with fail
                            go_meet
                            exact ⟨ss, by omega, HP.out⟩
                      case rest =>
                        obtain ⟨ss, hsl, hP⟩ := hcut
                        obtain ⟨Ap, Cp, hpv⟩ := sliceZ hP.row
                        have HP : Hid (PSt B wo wc (.slice Ap ss.length Cp) ss) := by rw [← hpv]; exact hP
                        subst hpv
                        clear hP P0
                        go_wp2_with fail
                        refine (one_any B 30 _ (by omega) (by omega) HP.out.src).mono ?_
                        rintro e w9 ⟨b9, rfl, hs9, hk9⟩
                        have HP9 : Hid (PSt B wo w9 (.slice Ap ss.length Cp) ss) := HP.out.keep hk9 hs9
                        clear hs9 hk9 HP
                        go_upto_if 98 with fail
                        go_cut [9] from 99 to 101 (fun pv wx => ∃ ss : List ByteArray, ss.length ≤ 9 ∧ PSt B wo wx pv ss)
                        case first =>
                          cases b9
                          · go_wp2_with fail
                            go_meet
                            exact ⟨ss, by omega, HP9.out⟩
                          · have hl9 : wo.heap.size ≤ w9.heap.size := HP9.out.kp.size
                            have hmx : ss.length + 1 ≤ maxLen := by unfold maxLen; omega
                            have tok1 : True := trivial
                            go_wp2_with (at_builtin; have _t := tok1; refine wpList_append_own _ rfl _ _ 53 rfl wo.heap.size 9 l0 (.string ⟨#[]⟩) 1 16 Tryd.underlying53 hl0i ki0 ki1 ki2 rfl (by decide) _ _ _ rfl (HP9.out.row.alloc _) ⟨_, 0, none⟩ 1 1 [.string ⟨#[88]⟩] rfl rfl (cell_one_at _ _ _ _ (by simp)) (by simp [Value.oneCell']) hmx (by omega) (by simp; omega) ?_; intro u' w10 hown' hgrow _; have HP10 : Hid (PSt B wo w10 u' (ss ++ [⟨#[88]⟩])) := HP9.out.push (by decide) hgrow hown'; clear tok1 hown' hgrow)
                            go_meet
                            exact ⟨ss ++ [⟨#[88]⟩], by simp; omega, HP10.out⟩
                        case rest =>
                          obtain ⟨ss, hsl, hP⟩ := hcut
                          obtain ⟨Ap, Cp, hpv⟩ := sliceZ hP.row
                          have HP : Hid (PSt B wo wc (.slice Ap ss.length Cp) ss) := by rw [← hpv]; exact hP
                          subst hpv
                          clear hP HP9
                          go_upto_region 23 with fail
                          go_cut [108] from 102 to 108 (fun c wx => ∃ bb : Bool, c = .bool bb ∧ (bb = true → 0 < ss.length) ∧ PSt B wo wx (.slice Ap ss.length Cp) ss)
                          case first =>
                            go_wp2_with fail
                            refine (one_any B 30 _ (by omega) (by omega) HP.out.src).mono ?_
                            rintro e w11 ⟨b11, rfl, hs11, hk11⟩
                            have HP11 : Hid (PSt B wo w11 (.slice Ap ss.length Cp) ss) := HP.out.keep hk11 hs11
                            clear hs11 hk11
                            cases b11
                            · go_wp2_with fail
                              go_meet
                              exact ⟨false, rfl, (fun h => by cases h), HP11.out⟩
                            · by_cases h0 : 0 < ss.length
                              · have h0' : (0 : Int) < (ss.length : Int) := by omega
                                go_wp2_with fail
                                go_meet
                                exact ⟨true, rfl, fun _ => h0, HP11.out⟩
                              · have h0' : ¬ (0 : Int) < (ss.length : Int) := by omega
                                go_wp2_with fail
                                go_meet
                                exact ⟨false, rfl, (fun h => by cases h), HP11.out⟩
                          case rest =>
                            obtain ⟨bd, hbd, hbp, hP⟩ := hcut
                            subst hbd
                            have HP12 : Hid (PSt B wo wc (.slice Ap ss.length Cp) ss) := hP
                            clear hP HP
                            go_upto_if 108 with fail
                            go_cut [109] from 109 to 117 (fun _ wx => ∃ ss' : List ByteArray, ss'.length = ss.length ∧ PSt B wo wx (.slice Ap ss.length Cp) ss')
                            case first =>
                              cases bd
                              · go_wp2_with fail
                                go_meet
                                exact ⟨ss, rfl, HP12.out⟩
                              · have h0 := hbp rfl
                                obtain ⟨gp, hAp⟩ : ∃ gp, Ap = some ⟨gp, 0, none⟩ := by
                                  rcases HP12.out.row.2 with ⟨e1, h1⟩ | ⟨g1, cap1, cur1, e1, _⟩
                                  · omega
                                  · simp only [Value.slice.injEq] at e1
                                    exact ⟨g1, e1.1⟩
                                subst hAp
                                go_wp2_with fail
                                refine (n_pos B (ss.length : Int) _ (by omega) (by omega) HP12.out.src).mono ?_
                                rintro e w13 ⟨q13, rfl, hq130, hq131, hs13, hk13⟩
                                have HP13 : Hid (PSt B wo w13 (.slice (some ⟨gp, 0, none⟩) ss.length Cp) ss) := HP12.out.keep hk13 hs13
                                have hl13 : B < w13.heap.size := hs13.lt
                                clear hs13 hk13 HP12
                                obtain ⟨i13, rfl⟩ : ∃ i13 : Nat, q13 = (i13 : Int) := ⟨q13.toNat, by omega⟩
                                go_wp2_with fail
                                refine (pick_any B w13.heap.size 8 8 [⟨#[]⟩, ⟨#[48]⟩, ⟨#[45, 49]⟩, ⟨#[48, 49]⟩, ⟨#[120]⟩, ⟨#[49, 48, 48, 48, 48, 48, 49]⟩, ⟨#[49, 48, 48, 48, 48, 48, 48, 48, 48, 49]⟩, ⟨#[78, 65, 77, 69, 45, 84, 79, 79, 45, 76, 79, 78, 71]⟩] _ (by omega) (by omega) rfl (by omega) (cells_list w13 _ 9 _ rfl) (HP13.out.src.below ((Below.refl _ _).alloc (by omega) _))).mono ?_
                                rintro e w14 ⟨s14, rfl, hs, hs14, hk14⟩
                                have hz14 : s14.size ≤ 100 := by
                                  simp only [List.mem_cons, List.not_mem_nil, or_false] at hs
                                  rcases hs with rfl | rfl | rfl | rfl | rfl | rfl | rfl | rfl <;> decide
                                have hP14 := (HP13.out.keep ((Keep.refl _ _).alloc _) (HP13.out.src.below ((Below.refl _ _).alloc (by omega) _))).keep hk14 hs14
                                obtain ⟨x14, hx14⟩ : ∃ x, (ss.map Value.string)[i13]? = some x := ⟨_, List.getElem?_eq_getElem (by rw [List.length_map]; omega)⟩
                                have c14 : w14.cell? ⟨gp, i13, none⟩ = some x14 := by
                                  rw [hP14.row.cellAt i13 (by omega)]
                                  exact hx14
                                have f14 : w14.frozen? ⟨gp, i13, none⟩ = false := hP14.row.frozenAt i13
                                have HP15 : Hid (PSt B wo (w14.setCell ⟨gp, i13, none⟩ (.string s14)) (.slice (some ⟨gp, 0, none⟩) (ss.set i13 s14).length Cp) (ss.set i13 s14)) := by
                                  have := hP14.set (i := i13) hz14
                                  rw [List.length_set]
                                  exact this
                                clear hs hs14 hk14 hP14 hx14 HP13
                                go_wp2_with fail
                                go_meet
                                exact ⟨ss.set i13 s14, by simp, by have := HP15.out; rw [List.length_set] at this; exact this⟩
                            case rest =>
                              obtain ⟨s2, hs2l, hP⟩ := hcut
                              have HP16 : Hid (PSt B wo wc (.slice Ap ss.length Cp) s2) := hP
                              obtain ⟨q0, q1, q2, q3⟩ := HRR.out _ _ _ _ (HL.out.keep hP.kp hP.src)
                              have HL16 : Hid (LSt B w wc (.slice (some ⟨gR, 0, none⟩) (rowsI n).length cR) n (.slice Ao gs.length Co) ps gs) := HL.out.keep hP.kp hP.src
                              clear hP HP12 HL hbp
                              go_wp2_with fail
                              refine (l03Seg_any (bs r.tag) (.slice Ap ss.length Cp) s2 _ (own_rowS100 (by rw [hs2l]; have := HP16.out.row; rw [hs2l] at this; exact this) (by omega) HP16.out.bd) (by omega)).mono ?_
                              rintro e w17 ⟨u17, vals, rfl, hO, hb17⟩
                              obtain ⟨Au, Cu, hu⟩ := sliceZ hO.row
                              rw [List.length_map, hs2l] at hu
                              subst hu
                              have hl17 : w.heap.size ≤ wc.heap.size := HL16.out.kp.size
                              have hl18 := hb17.size
                              have hBW : BdW (s2.map fun t => [t]) := fun e he => by
                                obtain ⟨t, ht, rfl⟩ := List.mem_map.1 he
                                refine ⟨by simp, fun x hx => ?_⟩
                                rw [List.mem_singleton.1 hx]
                                exact HP16.out.bd t ht
                              have HL17 : Hid (LSt B w w17 (.slice (some ⟨gR, 0, none⟩) (rowsI n).length cR) n (.slice Ao gs.length Co) ps gs ∧ OwnW w.heap.size w17 (.slice Au ss.length Cu) vals (s2.map fun t => [t])) := ⟨HL16.out.below hb17, hO.weak.mono hl17⟩
                              have hmx : gs.length + 1 ≤ maxLen := by unfold maxLen; omega
                              have htz : (bs r.tag).size ≤ 100 := m5
                              have tok1 : True := trivial
                              clear hO hb17 HP16 HL16
                              go_wp2_with (at_builtin; have _t := tok1; refine wpList_append_own _ rfl _ _ 23 rfl w.heap.size 36 j0 (.agg #[.string ⟨#[]⟩, .slice none 0 0]) 2 40 Tryd.underlying23 hj0i hi0 hi1 hi2 rfl (by decide) _ _ _ rfl (HL17.out.1.own.row.alloc _) ⟨_, 0, none⟩ 1 1 [.string (bs r.tag), .slice Au ss.length Cu] rfl rfl (cell_two_to _ _ _ _ _ (by simp)) (by simp [Value.oneCell']) hmx (by omega) (by simp; omega) ?_; intro u' w18 hown' hgrow _; have HL18 : Hid (LSt B w w18 (.slice (some ⟨gR, 0, none⟩) (rowsI n).length cR) n u' (ps ++ [(.slice Au ss.length Cu, vals)]) (gs ++ [(bs r.tag, s2.map fun t => [t])])) := HL17.out.1.push (g := (bs r.tag, s2.map fun t => [t])) HL17.out.2 ⟨htz, by simp; omega, hBW⟩ hgrow hown'; clear tok1 hown' hgrow)
                              go_roundw
                              case rel => exact ⟨m - 1, _, _, by go_num, by simp; omega, HL18.out⟩
                              case measure => simp [intOf]; omega
      · have HL : Hid (LSt B w wr (.slice Ar (rowsI n).length cR) n u5 ps gs) := hL
        clear hL
        have hkl' : ¬ (k : Int) < ((rowsI n).length : Int) := by omega
        go_wp2_with fail
        go_meet
        exact ⟨ps, gs, by omega, HL.out⟩
  case rest =>
    obtain ⟨ps, gs, hgl, hL⟩ := hcut
    obtain ⟨Ao, Co, ho⟩ := sliceZ hL.own.row
    subst ho
    have HL : Hid (LSt B w wc (.slice Ar (rowsI n).length cR) n (.slice Ao gs.length Co) ps gs) := hL
    clear hL H1
    go_upto_region 26 with fail
    go_cut [134] from 128 to 134 (fun c wx => ∃ bb : Bool, c = .bool bb ∧ (bb = true → 0 < gs.length) ∧ LSt B w wx (.slice Ar (rowsI n).length cR) n (.slice Ao gs.length Co) ps gs)
    case first =>
      go_wp2_with fail
      refine (one_any B 8 _ (by omega) (by omega) HL.out.src).mono ?_
      rintro e w5 ⟨b5, rfl, hs5, hk5⟩
      have HL5 : Hid (LSt B w w5 (.slice Ar (rowsI n).length cR) n (.slice Ao gs.length Co) ps gs) := HL.out.keep hk5 hs5
      clear hs5 hk5
      cases b5
      · go_wp2_with fail
        go_meet
        exact ⟨false, rfl, (fun h => by cases h), HL5.out⟩
      · by_cases h0 : 0 < gs.length
        · have h0' : (0 : Int) < (gs.length : Int) := by omega
          go_wp2_with fail
          go_meet
          exact ⟨true, rfl, fun _ => h0, HL5.out⟩
        · have h0' : ¬ (0 : Int) < (gs.length : Int) := by omega
          go_wp2_with fail
          go_meet
          exact ⟨false, rfl, (fun h => by cases h), HL5.out⟩
    case rest =>
      obtain ⟨bb, hbb, hbp, hL⟩ := hcut
      subst hbb
      rename World => wb
      have HL6 : Hid (LSt B w wb (.slice Ar (rowsI n).length cR) n (.slice Ao gs.length Co) ps gs) := hL
      clear hL HL
      go_upto_if 134 with fail
      go_cut [5, 12] from 135 to 164 (fun o _ wx => ∃ (ps : List (Value × List Value)) (gs : List Seg), gs.length ≤ 64 ∧ LSt B w wx (.slice Ar (rowsI n).length cR) n o ps gs)
      case first =>
        cases bb
        · go_wp2_with fail
          go_meet
          exact ⟨ps, gs, by omega, HL6.out⟩
        · have h0 := hbp rfl
          obtain ⟨g, hAo⟩ : ∃ g, Ao = some ⟨g, 0, none⟩ := by
            rcases HL6.out.own.row.2 with ⟨e1, h1⟩ | ⟨g1, cap1, cur1, e1, _⟩
            · omega
            · simp only [Value.slice.injEq] at e1
              exact ⟨g1, e1.1⟩
          subst hAo
          have hCl : gs.length ≤ Co := by
            rcases HL6.out.own.row.2 with ⟨e1, h1⟩ | ⟨g1, cap1, cur1, e1, _, _, h4, _⟩
            · omega
            · simp only [Value.slice.injEq] at e1
              omega
          go_wp2_with fail
          refine (n_pos B (gs.length : Int) _ (by omega) (by omega) HL6.out.src).mono ?_
          rintro e w6 ⟨q6, rfl, hq60, hq61, hs6, hk6⟩
          have HL6' : Hid (LSt B w w6 (.slice Ar (rowsI n).length cR) n (.slice (some ⟨g, 0, none⟩) gs.length Co) ps gs) := HL6.out.keep hk6 hs6
          clear hs6 hk6 HL6
          obtain ⟨i, rfl⟩ : ∃ i : Nat, q6 = (i : Int) := ⟨q6.toNat, by omega⟩
          go_wp2_with fail
          refine (n_any B 3 _ (by omega) (by omega) HL6'.out.src).mono ?_
          rintro e w7 ⟨q7, rfl, hq70, hq71, hs7, hk7⟩
          have HL7 : Hid (LSt B w w7 (.slice Ar (rowsI n).length cR) n (.slice (some ⟨g, 0, none⟩) gs.length Co) ps gs) := HL6'.out.keep hk7 hs7
          have hz7 : w.heap.size ≤ w7.heap.size := HL7.out.kp.size
          have hi' : i < gs.length := by omega
          clear hs7 hk7 HL6'
          obtain ⟨x, hx⟩ : ∃ x, gs[i]? = some x := ⟨_, List.getElem?_eq_getElem hi'⟩
          obtain ⟨p, hp⟩ : ∃ p, ps[i]? = some p := ⟨_, List.getElem?_eq_getElem (by rw [HL7.out.own.len]; exact hi')⟩
          obtain ⟨Ap, Cp, hp1⟩ := sliceZ (HL7.out.own.segs i p x hp hx).row
          have HX : Hid (gs[i]? = some x ∧ ps[i]? = some p ∧ p.1 = .slice Ap x.2.length Cp) := ⟨hx, hp, hp1⟩
          have HC : Hid (∀ (W : World), LSt B w W (.slice Ar (rowsI n).length cR) n (.slice (some ⟨g, 0, none⟩) gs.length Co) ps gs → W.cell? ⟨g, i * 2, none⟩ = some (.string x.1) ∧ W.cell? ⟨g, i * 2 + 1, none⟩ = some (.slice Ap x.2.length Cp) ∧ ∀ o, W.frozen? ⟨g, o, none⟩ = false) := fun W h => by
            obtain ⟨k1, k2⟩ := cellsL_get HX.out.1 HX.out.2.1
            have h1 := h.own.row.cells (g := g) rfl _ _ k1
            have h2 := h.own.row.cells (g := g) rfl _ _ k2
            have e1 : ∀ j, (⟨g, 0, none⟩ : Addr).add j = ⟨g, 0 + j, none⟩ := fun j => by unfold Addr.add; split <;> simp_all
            rw [e1, Nat.zero_add] at h1 h2
            rw [HX.out.2.2] at h2
            exact ⟨h1, h2, fun o => h.own.row.frozenAt o⟩
          clear hx hp hp1
          have hq : q7 = 0 ∨ q7 = 1 ∨ q7 = 2 := by omega
          rcases hq with rfl | rfl | rfl
          · have hone : ∀ p ∈ ps, ∃ A N C, p.1 = .slice A N C := fun p hp => by
              obtain ⟨m, hm⟩ := List.mem_iff_getElem?.1 hp
              exact row_slice (HL7.out.own.segs m p _ hm (List.getElem?_eq_getElem (by rw [← HL7.out.own.len]; exact (List.getElem?_eq_some_iff.1 hm).1))).row
            have hlp := HL7.out.own.len
            have HQ : Hid (w7.drew.ownsRow w.heap.size 36 2 (.slice (some ⟨g, 0, none⟩) i Co) i (cellsL (gs.take i) (ps.take i)) ∧ (cellsL (gs.drop (i + 1)) (ps.drop (i + 1))).length = (gs.length - (i + 1)) * 2 ∧ (∀ u ∈ cellsL (gs.drop (i + 1)) (ps.drop (i + 1)), u.oneCell' = true) ∧ (∀ j u, (cellsL (gs.drop (i + 1)) (ps.drop (i + 1)))[j]? = some u → w7.drew.cell? ((⟨g, (i + 1) * 2, none⟩ : Addr).add j) = some u) ∧ w.heap.size ≤ w7.drew.heap.size) := by
              refine ⟨?_, ?_, cellsZ_one fun p hp => hone p (List.mem_of_mem_drop hp), fun j u hu => ?_, hz7⟩
              · have h := row_prefix HL7.out.own.row (i := i) (by omega)
                rw [cellsZ_cut hlp i, List.take_left' (by rw [cellsL_len (by rw [List.length_take, List.length_take, hlp]), List.length_take]; omega)] at h
                exact h.drew
              · rw [cellsL_len (by rw [List.length_drop, List.length_drop, hlp]), List.length_drop]
              · have h1 := HL7.out.own.row.cells (g := g) rfl _ u (cellsZ_dropAt hlp (by omega) hu)
                have e1 : ∀ a d, (⟨g, a, none⟩ : Addr).add d = ⟨g, a + d, none⟩ := fun a d => by unfold Addr.add; split <;> simp_all
                rw [e1] at h1 ⊢
                rw [Nat.zero_add] at h1
                exact h1
            have hiC : (i : Int) ≤ (Co : Int) := by omega
            have hi01 : (0 : Int) ≤ (i : Int) + 1 := by omega
            have hi00 : (0 : Int) ≤ (i : Int) := by omega
            have hwr : IntKind.i64.wrap ((i : Int) + 1) = (i : Int) + 1 := by rw [IntKind.wrap_i64]; omega
            have hiC1 : (i : Int) + 1 ≤ (gs.length : Int) := by omega
            have hnC : (gs.length : Int) ≤ (Co : Int) := by omega
            clear hone hlp
            by_cases hCi : Co = i + 1
            · have hnil : cellsL (gs.drop (i + 1)) (ps.drop (i + 1)) = [] := List.eq_nil_of_length_eq_zero (by rw [HQ.out.2.1]; omega)
              have hCt : (Co = i + 1) = True := eq_true hCi
              clear hCi
              go_wp2_with fail
              go_region_law (first | (refine step_append_ownZ (by rfl) _ _ _ (by rfl) w.heap.size 36 j0 (.agg #[.string ⟨#[]⟩, .slice none 0 0]) 2 40 Tryd.underlying23 hj0i hi0 hi1 hi2 rfl (by omega) (.slice (some ⟨g, 0, none⟩) i Co) i (cellsL (gs.take i) (ps.take i)) (by kernel_rfl) HQ.out.1 ⟨g, 0, none⟩ (gs.length - (i + 1)) (Co - (i + 1)) (cellsL (gs.drop (i + 1)) (ps.drop (i + 1))) (by kernel_rfl) HQ.out.2.1 (fun j u hu => by rw [hnil] at hu; simp at hu) HQ.out.2.2.1 (by unfold maxLen; omega) (by omega) HQ.out.2.2.2.2 ?_; intro u' w8 hown' hgrow _; have HL8 : Hid (LSt B w w8 (.slice Ar (rowsI n).length cR) n u' (ps.take i ++ ps.drop (i + 1)) (gs.take i ++ gs.drop (i + 1))) := HL7.out.lessD hi' hgrow hown'; clear hown' hgrow; try dsimp only) | fail)
              all_goals go_wp2_with fail
              all_goals go_meet
              all_goals exact ⟨_, _, by simp; omega, HL8.out⟩
            · go_wp2_with fail
              go_region_law (first | (refine step_append_ownZ (by rfl) _ _ _ (by rfl) w.heap.size 36 j0 (.agg #[.string ⟨#[]⟩, .slice none 0 0]) 2 40 Tryd.underlying23 hj0i hi0 hi1 hi2 rfl (by omega) (.slice (some ⟨g, 0, none⟩) i Co) i (cellsL (gs.take i) (ps.take i)) (by kernel_rfl) HQ.out.1 ⟨g, (i + 1) * 2, none⟩ (gs.length - (i + 1)) (Co - (i + 1)) (cellsL (gs.drop (i + 1)) (ps.drop (i + 1))) (by kernel_rfl) HQ.out.2.1 HQ.out.2.2.2.1 HQ.out.2.2.1 (by unfold maxLen; omega) (by omega) HQ.out.2.2.2.2 ?_; intro u' w8 hown' hgrow _; have HL8 : Hid (LSt B w w8 (.slice Ar (rowsI n).length cR) n u' (ps.take i ++ ps.drop (i + 1)) (gs.take i ++ gs.drop (i + 1))) := HL7.out.lessD hi' hgrow hown'; clear hown' hgrow; try dsimp only) | fail)
              all_goals go_wp2_with fail
              all_goals go_meet
              all_goals exact ⟨_, _, by simp; omega, HL8.out⟩
          · obtain ⟨c0, c1, cf⟩ := HC.out _ HL7.out
            have hmx : gs.length + 1 ≤ maxLen := by unfold maxLen; omega
            have tok1 : True := trivial
            have hiI : (i : Int) < (gs.length : Int) := by omega
            go_wp2_with (at_builtin; have _t := tok1; refine wpList_append_own _ rfl _ _ 23 rfl w.heap.size 36 j0 (.agg #[.string ⟨#[]⟩, .slice none 0 0]) 2 40 Tryd.underlying23 hj0i hi0 hi1 hi2 rfl (by decide) _ _ _ rfl (HL7.out.own.row.alloc _) ⟨_, 0, none⟩ 1 1 [.string x.1, .slice Ap x.2.length Cp] rfl rfl (cell_two_to _ _ _ _ _ (by simp)) (by simp [Value.oneCell']) hmx (by omega) (by simp; omega) ?_; intro u' w8 hown' hgrow _; have HL8 : Hid (LSt B w w8 (.slice Ar (rowsI n).length cR) n u' (ps ++ [(.slice Ap x.2.length Cp, p.2)]) (gs ++ [x])) := HL7.out.push (by have h := HL7.out.own.segs i p x HX.out.2.1 HX.out.1; rw [HX.out.2.2] at h; exact h) (HL7.out.bd x (List.mem_of_getElem? HX.out.1)) hgrow hown'; clear tok1 hown' hgrow)
            go_meet
            exact ⟨_, _, by simp; omega, HL8.out⟩
          · go_wp2_with fail
            refine (l02Segment_any B _ HL7.out.src).mono ?_
            rintro e w8 ⟨tag, vs, vals, es, rfl, htz, hel, hO, hBd, hs8, hk8⟩
            obtain ⟨Av, Nv, Cv, hv⟩ := row_slice hO.row
            subst hv
            have hL8 := HL7.out.keep hk8 hs8
            obtain ⟨c0, c1, cf⟩ := HC.out _ hL8
            have HL9 : Hid (LSt B w ((w8.setCell ⟨g, i * 2, none⟩ (.string tag)).setCell ⟨g, i * 2 + 1, none⟩ (.slice Av Nv Cv)) (.slice Ar (rowsI n).length cR) n (.slice (some ⟨g, 0, none⟩) gs.length Co) (ps.set i (.slice Av Nv Cv, vals)) (gs.set i (tag, es))) := hL8.turn (x := (tag, es)) hi' (hO.mono hz7) ⟨htz, hel, hBd⟩
            have hiI : (i : Int) < (gs.length : Int) := by omega
            clear hO hBd hs8 hk8 hL8
            go_wp2_with fail
            go_meet
            exact ⟨_, _, by simp; omega, HL9.out⟩
      case rest =>
        obtain ⟨ps, gs, hgl, hL⟩ := hcut
        have HL : Hid (LSt B w wc (.slice Ar (rowsI n).length cR) n u5 ps gs) := hL
        clear hL HL6
        go_wp2
        go_ret
        exact ⟨_, ps, gs, rfl, hgl, HL.out.own, HL.out.bd, HL.out.src, HL.out.kp⟩
end Go.Proofs.YtphgheojfnlgjaaDoor
