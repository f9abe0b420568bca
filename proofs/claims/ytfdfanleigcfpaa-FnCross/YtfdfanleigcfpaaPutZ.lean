/- Contract of the model's CrossPut. -/
import Derived.Test.YtfdfanleigcfpaaPutY0
namespace Go.Proofs.Ytfdfanleigcfpaa
open Go.ChangeShapes Go.WideShapes Go.ChangeAt Go.RowKit
/-- A list in a row of its own, from a block on. -/
def OwC (n : Nat) (W : World) (v : Value) (rs : List Crs) : Prop := ∃ b, n ≤ b ∧ LCs b W v rs
theorem OwC.below {n : Nat} {W W' : World} {v : Value} {rs : List Crs} (h : OwC n W v rs) (hb : Below W.heap.size W W') : OwC n W' v rs := h.elim fun b ⟨h1, h2⟩ => ⟨b, h1, h2.below hb⟩
theorem OwC.row {n : Nat} {W : World} {v : Value} {rs : List Crs} (h : OwC n W v rs) : RowCs W v rs := h.elim fun _ h => h.2.row
theorem ow0 (n : Nat) (W : World) (a : Option Addr) (c : Nat) : OwC n W (.slice a 0 c) [] := ⟨n, Nat.le_refl _, ⟨a, c, rfl, fun h => absurd rfl h⟩, by simp, fun i g hi => by simp at hi⟩
/-- What stands behind the first test: the cross's box and the list as it is. -/
structure QZ (w W : World) (c : Crs) (sv : Value) (rs : List Crs) : Prop where
  bel : Below w.heap.size w W
  cb : W.heap[w.heap.size]? = some (.cells #[.string c.partner, .string c.theirs, .string c.own] 25)
  same : OwC w.heap.size W sv rs
theorem QZ.below {w W W' : World} {c : Crs} {sv : Value} {rs : List Crs} (h : QZ w W c sv rs) (hb : Below W.heap.size W W') : QZ w W' c sv rs :=
  ⟨h.bel.trans (hb.mono h.bel.size), (hb.block _ (Array.getElem?_eq_some_iff.1 h.cb).1).trans h.cb, h.same.below hb⟩
theorem QZ.cells {w W : World} {c : Crs} {sv : Value} {rs : List Crs} (h : QZ w W c sv rs) : W.cell? ⟨w.heap.size, 0, none⟩ = some (.string c.partner) ∧ W.cell? ⟨w.heap.size, 1, none⟩ = some (.string c.theirs) ∧ W.cell? ⟨w.heap.size, 2, none⟩ = some (.string c.own) := ⟨cell_blk3 h.cb rfl, cell_blk3 h.cb rfl, cell_blk3 h.cb rfl⟩
/-- The list under way. -/
structure QL (w2 W : World) (v : Value) (acc : List Crs) : Prop where
  bel : Below w2.heap.size w2 W
  row : W.ownsRow w2.heap.size 25 3 v acc.length (clCss acc)
theorem QL.below {w2 W W' : World} {v : Value} {acc : List Crs} (h : QL w2 W v acc) (hb : Below W.heap.size W W') : QL w2 W' v acc := by
  refine ⟨h.bel.trans (hb.mono h.bel.size), h.row.kept (row := none) ⟨hb.os, hb.tape, hb.output, hb.size, fun k hk _ => hb.block k hk⟩ ?_⟩
  rcases h.row.2 with ⟨e, _⟩ | ⟨g, cap, cur, e, _⟩
  · exact .inl (by rw [e]; rfl)
  · exact .inr (by rw [e]; simp [Value.ownBlock])
theorem QL.app {w2 W W' : World} {v v' : Value} {acc : List Crs} {o : Obj} {d : Crs} (h : QL w2 W v acc) (hrow : (W.alloc o).ownsRow w2.heap.size 25 3 v acc.length (clCss acc)) (hown : W'.ownsRow w2.heap.size 25 3 v' (acc ++ [d]).length (clCss (acc ++ [d]))) (hg : (W.alloc o).grownBy W' v.ownBlock) : QL w2 W' v' (acc ++ [d]) :=
  ⟨grow_below (h.bel.alloc h.bel.size _) hrow hg (by have := h.bel.size; simp; omega), hown⟩
theorem at_new {W : World} {d : Crs} : AtCs (W.alloc (.cells #[.string d.partner, .string d.theirs, .string d.own] 25)) W.heap.size 0 d := by
  have e := World.alloc_heap_new W (.cells #[.string d.partner, .string d.theirs, .string d.own] 25)
  exact ⟨cell_blk3 e rfl, cell_blk3 e rfl, cell_blk3 e rfl⟩
set_option maxHeartbeats 16000000 in
theorem crossPut_specO (rs : List Crs) (ad : Addr) (Cp : Nat) (c : Crs) (w : World) (h : RowCs w (.slice (some ad) rs.length Cp) rs) (hc : c.partner.size ≤ 9223372036854775807 ∧ c.theirs.size ≤ 9223372036854775807 ∧ c.own.size ≤ 9223372036854775807) :
    Calls Try.prog 7 #[.slice (some ad) rs.length Cp, .agg #[.string c.partner, .string c.theirs, .string c.own]] w fun e w' => ∃ u, e = .returned u ∧ OwC w.heap.size w' u (putT rs c) ∧ Below w.heap.size w w' := by
  have hlen := h.len
  have H0 : Hid (RowCs w (.slice (some ad) rs.length Cp) rs) := h
  have HZ : Hid (c.partner.size ≤ 9223372036854775807 ∧ c.theirs.size ≤ 9223372036854775807 ∧ c.own.size ≤ 9223372036854775807) := hc
  clear h hc
  obtain ⟨W0, hW0⟩ : ∃ W0, w.alloc (.cells #[.string c.partner, .string c.theirs, .string c.own] 25) = W0 := ⟨_, rfl⟩
  have hb0 : Below w.heap.size w W0 := by rw [← hW0]; exact (Below.refl _ _).alloc (Nat.le_refl _) _
  have hcb : W0.heap[w.heap.size]? = some (.cells #[.string c.partner, .string c.theirs, .string c.own] 25) := by rw [← hW0]; exact World.alloc_heap_new _ _
  have H1 : Hid (Below w.heap.size w W0 ∧ W0.heap[w.heap.size]? = some (.cells #[.string c.partner, .string c.theirs, .string c.own] 25)) := ⟨hb0, hcb⟩
  clear hb0 hcb
  go_enter Try.func7, Try.ntmps7
  by_cases h1 : 400 < rs.length
  · have h1' : (400 : Int) < (rs.length : Int) := by omega
    have HT : Hid (putT rs c = []) := if_pos h1
    go_wp2
    go_ret
    exact ⟨_, rfl, by rw [HT.out]; exact ow0 _ _ _ _, H1.out.1.alloc H1.out.1.size _⟩
  have h1' : ¬ (400 : Int) < (rs.length : Int) := by omega
  have hz0 := H1.out.1.size
  have hrowE : (W0.alloc (.cells #[] 25)).ownsRow w.heap.size 25 3 (.slice (some ⟨W0.heap.size, 0, none⟩) ([] : List Crs).length 0) ([] : List Crs).length (clCss []) := own0 W0 hz0
  have hrowL : RowCs (W0.alloc (.cells #[] 25)) (.slice (some ad) rs.length Cp) rs := H0.out.below (H1.out.1.alloc hz0 _)
  go_wp2_with (first | (at_builtin; refine wpList_appsCs rfl _ _ rfl rfl rfl hrowE hrowL (by simp; omega) (by simp; omega) ?_; rintro v1 w1 hown1 hgrow1 ⟨A1, C1, rfl⟩))
  simp only [List.nil_append] at hown1
  have hb1 : Below w.heap.size w w1 := grow_below (H1.out.1.alloc hz0 _) hrowE hgrow1 (by simp; omega)
  have hcb1 : w1.heap[w.heap.size]? = some (.cells #[.string c.partner, .string c.theirs, .string c.own] 25) := by
    have hlt := (Array.getElem?_eq_some_iff.1 H1.out.2).1
    refine (hgrow1.block _ (by simp; omega) ?_).trans ((((Below.refl _ W0).alloc (Nat.le_refl _) (.cells #[] 25)).block _ hlt).trans H1.out.2)
    show some w.heap.size ≠ some W0.heap.size
    intro e
    have := Option.some.inj e
    omega
  obtain ⟨bs, hbs, hLs⟩ := LCs.of_owns hown1 (by omega) (fun i g hi => H0.out.sizes i g hi)
  have Q1 : Hid (QZ w w1 c (.slice A1 rs.length C1) rs) := ⟨hb1, hcb1, _, hbs, hLs⟩
  clear hown1 hgrow1 hb1 hcb1 hbs hLs hrowE hrowL hz0 hW0
  try simp only [List.nil_append]
  go_wp2_with fail
  refine (crossRight_spec _ rs _ (H0.out.below Q1.out.bel)).mono ?_
  rintro e w2 ⟨rfl, hb2⟩
  have Q2 : Hid (QZ w w2 c (.slice A1 rs.length C1) rs) := Q1.out.below hb2
  clear hb2 Q1
  cases hr : rightB rs
  · have HT : Hid (putT rs c = rs) := by
      show putT rs c = rs
      unfold putT
      rw [if_neg h1, if_neg (fun e => by rw [hr] at e; cases e.1)]
    go_wp2
    go_ret
    exact ⟨_, rfl, by rw [HT.out]; exact Q2.out.same, Q2.out.bel⟩
  have hL0 : QL w2 (w2.alloc (.cells #[] 25)) (.slice (some ⟨w2.heap.size, 0, none⟩) 0 0) [] := ⟨(Below.refl _ _).alloc (Nat.le_refl _) _, own0 w2 (Nat.le_refl _)⟩
  have HL0 : Hid (QL w2 (w2.alloc (.cells #[] 25)) (.slice (some ⟨w2.heap.size, 0, none⟩) 0 0) []) := hL0
  have HR : Hid (rightB rs = true) := hr
  clear hL0 hr
  go_wp2_with fail
  go_loopw [6, 7, 8] (fun ov dn i wr => ∃ (k : Nat) (done : Bool) (acc : List Crs), i = .int .i64 (k : Int) ∧ dn = .bool done ∧ (∃ A C, ov = .slice A acc.length C) ∧ k ≤ rs.length ∧ QL w2 wr ov acc ∧ acc ++ spP c done (rs.drop k) = spP c false rs) (fun _ _ i _ => rs.length - (intOf i).toNat)
  case atStart => exact ⟨0, false, [], rfl, rfl, ⟨_, _, rfl⟩, by omega, HL0.out, rfl⟩
  case round =>
    obtain ⟨k, done, acc, rfl, rfl, ⟨A, C, rfl⟩, hk, hq, hsp⟩ := hrel
    have hal : acc.length ≤ 401 := by
      have e1 := congrArg List.length hsp
      have e2 := spP_len c rs
      simp at e1
      omega
    by_cases hlt : k < rs.length
    · have hlt' : (k : Int) < (rs.length : Int) := by omega
      have hqz := Q2.out.below (hq.bel)
      obtain ⟨b, o, cap', d, e, hs, ⟨q0, q1, q2⟩, hz⟩ := (H0.out.below hqz.bel).at hlt
      simp only [Value.slice.injEq, true_and, Option.some.injEq] at e
      obtain ⟨rfl, rfl⟩ := e
      obtain ⟨c0, c1, c2⟩ := hqz.cells
      have hsp2 : acc ++ ((if !done && !befB d c then [c] else []) ++ ((if thK d = thK c then [] else [d]) ++ spP c (done || !befB d c) (rs.drop (k + 1)))) = spP c false rs := by
        rw [← hsp, List.drop_eq_getElem_cons hlt, show rs[k] = d from (List.getElem?_eq_some_iff.1 hs).2]
        rfl
      have HI : Hid (QL w2 wr (.slice A acc.length C) acc ∧ rs[k]? = some d ∧ acc ++ ((if !done && !befB d c then [c] else []) ++ ((if thK d = thK c then [] else [d]) ++ spP c (done || !befB d c) (rs.drop (k + 1)))) = spP c false rs) := ⟨hq, hs, hsp2⟩
      clear hq hs hsp hsp2 hz hqz
      obtain ⟨bf, hbf⟩ : ∃ bf, bf = befB d c := ⟨_, rfl⟩
      have HBF : Hid (bf = befB d c) := hbf
      go_upto_region 11 with fail
      go_cut [37] from 27 to 36 (fun t wx => t = .bool (!done && !bf) ∧ Below wr.heap.size wr wx)
      case first =>
        cases done with
        | true =>
          go_quiet (fail)
          go_wp2_with fail
          go_meet
          exact ⟨rfl, below_drewN (Below.refl _ _) _⟩
        | false =>
          have Q4 := before_any d c
          rw [← hbf] at Q4
          have lC := cell_lt c0
          have lb := cell_lt q0
          go_region_held3 (fun W => W.cell? ⟨w.heap.size, 0, none⟩ = some (.string c.partner) ∧ W.cell? ⟨w.heap.size, 1, none⟩ = some (.string c.theirs) ∧ W.cell? ⟨w.heap.size, 2, none⟩ = some (.string c.own) ∧ W.cell? ⟨b, o + k * 3, none⟩ = some (.string d.partner) ∧ W.cell? ⟨b, o + k * 3 + 1, none⟩ = some (.string d.theirs) ∧ W.cell? ⟨b, o + k * 3 + 2, none⟩ = some (.string d.own)) (go_keep) (first | (go_at_call 19; refine (Q4 _).mono ?_; rintro e w3 ⟨rfl, hb3⟩; have u0 := (hb3.cell (p := ⟨w.heap.size, 0, none⟩) lC).trans c0; have u1 := (hb3.cell (p := ⟨w.heap.size, 1, none⟩) lC).trans c1; have u2 := (hb3.cell (p := ⟨w.heap.size, 2, none⟩) lC).trans c2; have t0 := (hb3.cell (p := ⟨b, o + k * 3, none⟩) lb).trans q0; have t1 := (hb3.cell (p := ⟨b, o + k * 3 + 1, none⟩) lb).trans q1; have t2 := (hb3.cell (p := ⟨b, o + k * 3 + 2, none⟩) lb).trans q2))
          have HB3 : Hid (Below wr.heap.size wr w3) := (Below.refl _ _).drew.trans hb3
          rename_i hHeld
          clear hHeld
          go_wp2_with fail
          go_meet
          exact ⟨by simp [hbf], HB3.out⟩
      case rest =>
        obtain ⟨rfl, hb5⟩ := hcut
        rename World => w5
        clear c0 c1 c2 q0 q1 q2 hbf
        have H5 : Hid (QL w2 w5 (.slice A acc.length C) acc) := HI.out.1.below hb5
        clear hb5
        go_upto_if 37 with fail
        go_cut [6, 7] from 37 to 41 (fun ov dn wx => ∃ acc1 A C, acc1 = acc ++ (if !done && !bf then [c] else []) ∧ ov = .slice A acc1.length C ∧ dn = .bool (done || !bf) ∧ QL w2 wx ov acc1)
        case first =>
          obtain ⟨c0, c1, c2⟩ := (Q2.out.below H5.out.bel).cells
          cases hx : (!done && !bf) with
          | false =>
            have hd : (done || !bf) = done := by cases done <;> cases bf <;> simp_all
            go_wp2_with fail
            go_meet
            exact ⟨acc, A, C, by rw [hx]; simp, rfl, by rw [hd], H5.out⟩
          | true =>
            have hd : (done || !bf) = true := by cases done <;> cases bf <;> simp_all
            have hrow : (w5.alloc (.cells #[.string c.partner, .string c.theirs, .string c.own] 25)).ownsRow w2.heap.size 25 3 (.slice A acc.length C) acc.length (clCss acc) := H5.out.row.alloc _
            have hs5 := H5.out.bel.size
            go_wp2_with (first | (at_builtin; refine wpList_appCs rfl _ _ rfl rfl rfl hrow at_new (by omega) (by simp; omega) ?_; rintro v4 w4 hown4 hgrow4 ⟨A4, C4, rfl⟩))
            go_meet
            exact ⟨acc ++ [c], A4, C4, by rw [hx]; simp, by simp, by rw [hd], by simpa using H5.out.app hrow hown4 hgrow4⟩
        case rest =>
          obtain ⟨acc1, Aa, Ca, hacc, rfl, rfl, hq6⟩ := hcut
          rename World => w6
          have HF : Hid (acc1 ++ ((if thK d = thK c then [] else [d]) ++ spP c (done || !bf) (rs.drop (k + 1))) = spP c false rs) := by
            rw [hacc, HBF.out, List.append_assoc]
            exact HI.out.2.2
          have hal1 : acc1.length ≤ 401 := by
            have e1 := congrArg List.length HF.out
            have e2 := spP_len c rs
            simp only [List.length_append] at e1
            omega
          have hq7 := Q2.out.below hq6.bel
          obtain ⟨c0, c1, c2⟩ := hq7.cells
          obtain ⟨b', o', cap', d', e, hs', ⟨q0, q1, q2⟩, _⟩ := (H0.out.below hq7.bel).at hlt
          simp only [Value.slice.injEq, Option.some.injEq, Addr.mk.injEq, true_and, and_true] at e
          obtain ⟨⟨rfl, rfl⟩, rfl⟩ := e
          obtain rfl : d = d' := by
            have := HI.out.2.1
            rw [hs'] at this
            exact (Option.some.inj this).symm
          have H6 : Hid (QL w2 w6 (.slice Aa acc1.length Ca) acc1) := hq6
          have hs6 := H6.out.bel.size
          clear hq6 hq7 hs' hacc
          cases e1 : (d.partner.toList == c.partner.toList)
          · have HF2 : Hid (acc1 ++ ([d] ++ spP c (done || !bf) (rs.drop (k + 1))) = spP c false rs) := by
              have := HF.out
              rw [if_neg (fun e => ba_ne' e1 (congrArg Prod.fst e))] at this
              exact this
            go_upto_region 14 with fail
            go_quiet (fail)
            have hq8 := H6.out.below (below_drewN (Below.refl _ _) nq)
            have hrow : ((w6.drewN nq).alloc (.cells #[.string d.partner, .string d.theirs, .string d.own] 25)).ownsRow w2.heap.size 25 3 (.slice Aa acc1.length Ca) acc1.length (clCss acc1) := hq8.row.alloc _
            have hs8 := hq8.bel.size
            have H8 : Hid (QL w2 (w6.drewN nq) (.slice Aa acc1.length Ca) acc1) := hq8
            clear hq8
            go_wp2_with (first | (at_builtin; refine wpList_appCs rfl _ _ rfl rfl rfl hrow at_new (by omega) (by simp; omega) ?_; rintro v4 w4 hown4 hgrow4 ⟨A4, C4, rfl⟩))
            have hfin := H8.out.app hrow hown4 hgrow4
            exact ⟨⟨k + 1, done || !bf, acc1 ++ [d], by go_num, rfl, ⟨A4, C4, by simp⟩, by omega, by simpa using hfin, by rw [List.append_assoc]; exact HF2.out⟩, by simp [intOf]; omega⟩
          · cases e2 : (d.theirs.toList == c.theirs.toList)
            · have HF2 : Hid (acc1 ++ ([d] ++ spP c (done || !bf) (rs.drop (k + 1))) = spP c false rs) := by
                have := HF.out
                rw [if_neg (fun e => ba_ne' e2 (congrArg Prod.snd e))] at this
                exact this
              go_upto_region 14 with fail
              go_quiet (fail)
              have hq8 := H6.out.below (below_drewN (Below.refl _ _) nq)
              have hrow : ((w6.drewN nq).alloc (.cells #[.string d.partner, .string d.theirs, .string d.own] 25)).ownsRow w2.heap.size 25 3 (.slice Aa acc1.length Ca) acc1.length (clCss acc1) := hq8.row.alloc _
              have hs8 := hq8.bel.size
              have H8 : Hid (QL w2 (w6.drewN nq) (.slice Aa acc1.length Ca) acc1) := hq8
              clear hq8
              go_wp2_with (first | (at_builtin; refine wpList_appCs rfl _ _ rfl rfl rfl hrow at_new (by omega) (by simp; omega) ?_; rintro v4 w4 hown4 hgrow4 ⟨A4, C4, rfl⟩))
              have hfin := H8.out.app hrow hown4 hgrow4
              exact ⟨⟨k + 1, done || !bf, acc1 ++ [d], by go_num, rfl, ⟨A4, C4, by simp⟩, by omega, by simpa using hfin, by rw [List.append_assoc]; exact HF2.out⟩, by simp [intOf]; omega⟩
            · have HF2 : Hid (acc1 ++ spP c (done || !bf) (rs.drop (k + 1)) = spP c false rs) := by
                have := HF.out
                rw [if_pos (by simp [thK, ba_eq' e1, ba_eq' e2])] at this
                exact this
              go_upto_region 14 with fail
              go_quiet (fail)
              have H8 : Hid (QL w2 (w6.drewN nq) (.slice Aa acc1.length Ca) acc1) := H6.out.below (below_drewN (Below.refl _ _) nq)
              go_wp2
              exact ⟨⟨k + 1, done || !bf, acc1, by go_num, rfl, ⟨Aa, Ca, rfl⟩, by omega, H8.out, HF2.out⟩, by simp [intOf]; omega⟩
    · obtain rfl : k = rs.length := by omega
      rw [List.drop_length] at hsp
      obtain ⟨c0, c1, c2⟩ := (Q2.out.below hq.bel).cells
      have HQ : Hid (QL w2 wr (.slice A acc.length C) acc ∧ acc ++ spP c done [] = spP c false rs) := ⟨hq, hsp⟩
      have hsq := hq.bel.size
      have hrow : (wr.alloc (.cells #[.string c.partner, .string c.theirs, .string c.own] 25)).ownsRow w2.heap.size 25 3 (.slice A acc.length C) acc.length (clCss acc) := hq.row.alloc _
      clear hq hsp
      have HS : Hid (∀ W v, QL w2 W v (spP c false rs) → OwC w.heap.size W v (spP c false rs) ∧ Below w.heap.size w W ∧ QZ w W c (.slice A1 rs.length C1) rs) := fun W v hW => by
        obtain ⟨b, hbb, hL⟩ := LCs.of_owns hW.row (by have := spP_len c rs; omega) (fun i g hi => by
          rcases spP_mem g (List.mem_of_getElem? hi) with rfl | hm
          · exact HZ.out
          · obtain ⟨j, hj⟩ := List.getElem?_of_mem hm
            exact H0.out.sizes j g hj)
        have hz := Q2.out.below hW.bel
        exact ⟨⟨b, by have := Q2.out.bel.size; omega, hL⟩, hz.bel, hz⟩
      cases done with
      | true =>
        have HL : Hid (QL w2 wr (.slice A acc.length C) (spP c false rs)) := by
          have e := HQ.out.2
          simp only [spP, if_true, List.append_nil] at e
          rw [← e]
          exact HQ.out.1
        go_wp2_with fail
        refine (crossRight_spec _ _ _ (HS.out _ _ HL.out).1.row).mono ?_
        rintro e w9 ⟨rfl, hb9⟩
        obtain ⟨r1, r2, r3⟩ := HS.out _ _ HL.out
        have H9 : Hid (OwC w.heap.size w9 _ (spP c false rs) ∧ Below w.heap.size w w9 ∧ QZ w w9 c (.slice A1 rs.length C1) rs) := ⟨r1.below hb9, r2.trans (hb9.mono r2.size), r3.below hb9⟩
        clear r1 r2 r3 hb9
        cases hr2 : rightB (spP c false rs)
        · have HT : Hid (putT rs c = rs) := by
            show putT rs c = rs
            unfold putT
            rw [if_neg h1, if_neg (fun e => by rw [hr2] at e; cases e.2)]
          go_wp2
          go_ret
          exact ⟨_, rfl, by rw [HT.out]; exact H9.out.2.2.same, H9.out.2.1⟩
        · have HT : Hid (putT rs c = spP c false rs) := by
            show putT rs c = spP c false rs
            unfold putT
            rw [if_neg h1, if_pos ⟨HR.out, hr2⟩]
          go_wp2
          go_ret
          exact ⟨_, rfl, by rw [HT.out]; exact H9.out.1, H9.out.2.1⟩
      | false =>
        have he : acc ++ [c] = spP c false rs := HQ.out.2
        go_wp2_with (first | (at_builtin; refine wpList_appCs rfl _ _ rfl rfl rfl hrow at_new (by omega) (by simp; omega) ?_; rintro v4 w4 hown4 hgrow4 ⟨A4, C4, rfl⟩))
        have hfin := HQ.out.1.app hrow hown4 hgrow4
        rw [he] at hfin
        have HL : Hid (QL w2 w4 (.slice A4 (spP c false rs).length C4) (spP c false rs)) := hfin
        clear hown4 hgrow4 hfin hrow
        refine (crossRight_spec _ _ _ (HS.out _ _ HL.out).1.row).mono ?_
        rintro e w9 ⟨rfl, hb9⟩
        obtain ⟨r1, r2, r3⟩ := HS.out _ _ HL.out
        have H9 : Hid (OwC w.heap.size w9 _ (spP c false rs) ∧ Below w.heap.size w w9 ∧ QZ w w9 c (.slice A1 rs.length C1) rs) := ⟨r1.below hb9, r2.trans (hb9.mono r2.size), r3.below hb9⟩
        clear r1 r2 r3 hb9
        cases hr2 : rightB (spP c false rs)
        · have HT : Hid (putT rs c = rs) := by
            show putT rs c = rs
            unfold putT
            rw [if_neg h1, if_neg (fun e => by rw [hr2] at e; cases e.2)]
          go_wp2
          go_ret
          exact ⟨_, rfl, by rw [HT.out]; exact H9.out.2.2.same, H9.out.2.1⟩
        · have HT : Hid (putT rs c = spP c false rs) := by
            show putT rs c = spP c false rs
            unfold putT
            rw [if_neg h1, if_pos ⟨HR.out, hr2⟩]
          go_wp2
          go_ret
          exact ⟨_, rfl, by rw [HT.out]; exact H9.out.1, H9.out.2.1⟩
theorem crossPut_spec (rs : List Crs) (ad : Addr) (Cp : Nat) (c : Crs) (w : World) (h : RowCs w (.slice (some ad) rs.length Cp) rs) (hc : c.partner.size ≤ 9223372036854775807 ∧ c.theirs.size ≤ 9223372036854775807 ∧ c.own.size ≤ 9223372036854775807) :
    Calls Try.prog 7 #[.slice (some ad) rs.length Cp, .agg #[.string c.partner, .string c.theirs, .string c.own]] w fun e w' => ∃ u, e = .returned u ∧ RowCs w' u (putT rs c) ∧ Below w.heap.size w w' :=
  (crossPut_specO rs ad Cp c w h hc).mono fun _ _ ⟨u, h1, h2, h3⟩ => ⟨u, h1, h2.row, h3⟩
end Go.Proofs.Ytfdfanleigcfpaa
