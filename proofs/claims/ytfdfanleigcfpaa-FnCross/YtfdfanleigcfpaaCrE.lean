/- Contract of the model's l08Crosses. -/
import Derived.Test.YtfdfanleigcfpaaCrD
import Derived.Test.YtfdfanleigcfpaaPutZ
import Derived.Test.YtfdfanleigcfpaaCrL
import Derived.Test.YtfdfanleigcfpaaDecS
import Derived.Deep.Cut
import Derived.Deep.CutRange
namespace Go.Proofs.Ytfdfanleigcfpaa
open Go.ChangeShapes Go.WideShapes Go.ChangeAt Go.RowKit
def SmC (c : Crs) : Prop := c.partner.size ≤ 12 ∧ c.theirs.size ≤ 12 ∧ c.own.size ≤ 12
theorem SmC.max {c : Crs} (h : SmC c) : c.partner.size ≤ 9223372036854775807 ∧ c.theirs.size ≤ 9223372036854775807 ∧ c.own.size ≤ 9223372036854775807 := by
  have := h.1
  have := h.2.1
  have := h.2.2
  omega
theorem putT_mem {rs : List Crs} {c : Crs} : ∀ x ∈ putT rs c, x = c ∨ x ∈ rs := fun x hx => by
  unfold putT at hx
  split at hx
  · cases hx
  · split at hx
    · exact spP_mem x hx
    · exact .inr hx
theorem putT_len (rs : List Crs) (c : Crs) : (putT rs c).length ≤ rs.length + 1 := by
  unfold putT
  split
  · simp
  · split
    · exact spP_len c rs
    · omega
theorem putT_ne {rs : List Crs} {c : Crs} (hl : rs.length ≤ 400) (hc : crsB c = true) : putT rs c ≠ [] := by
  unfold putT
  rw [if_neg (by omega)]
  split
  · intro e
    have := (spP_perm c rs).length_eq
    rw [e] at this
    simp at this
  · rename_i h
    intro e
    subst e
    refine h ⟨rightB_yes (.of_pairs (by simp) (by simp) (by simp) (by simp)), rightB_yes (.of_pairs ?_ ?_ ?_ ?_)⟩ <;> simp [spP, hc]
/-- The source, and a list in a row of the call's own. -/
structure QC (B : Nat) (w W : World) (v : Value) (rs : List Crs) : Prop where
  src : IsSrc B W
  kp : Keep B w W
  hB : B < w.heap.size
  ow : OwC w.heap.size W v rs
  sh : ∃ ad C, v = .slice (some ad) rs.length C
  sm : ∀ g ∈ rs, SmC g
  len : rs.length ≤ 250
theorem OwC.keep {n c : Nat} {W W' : World} {v : Value} {rs : List Crs} (h : OwC n W v rs) (hk : Keep c W W') (hc : c < n) : OwC n W' v rs := h.elim fun b ⟨h1, h2⟩ => ⟨b, h1, h2.keep hk (by omega)⟩
theorem OwC.mono {n m : Nat} {W : World} {v : Value} {rs : List Crs} (h : OwC n W v rs) (hm : m ≤ n) : OwC m W v rs := h.elim fun b ⟨h1, h2⟩ => ⟨b, by omega, h2⟩
theorem QC.keep {B : Nat} {w W W' : World} {v : Value} {rs : List Crs} (h : QC B w W v rs) (hk : Keep B W W') (hs : IsSrc B W') : QC B w W' v rs := ⟨hs, h.kp.trans hk, h.hB, h.ow.keep hk h.hB, h.sh, h.sm, h.len⟩
theorem QC.put {B : Nat} {w W W' : World} {v u : Value} {rs : List Crs} {c : Crs} (h : QC B w W v rs) (hc : crsB c = true) (hl : rs.length ≤ 200) (ho : OwC W.heap.size W' u (putT rs c)) (hb : Below W.heap.size W W') : QC B w W' u (putT rs c) := by
  refine ⟨h.src.below (hb.mono h.src.lt), h.kp.trans (Keep.of_below hb), h.hB, ho.mono h.kp.size, ?_, fun g hg => ?_, by have := putT_len rs c; omega⟩
  · obtain ⟨b, _, hL⟩ := ho
    obtain ⟨a, cap, e, hs⟩ := hL.shape
    rw [(hs (putT_ne (by omega) hc)).1] at e
    exact ⟨_, _, e⟩
  · rcases putT_mem g hg with rfl | hg
    · exact crsB_sizes hc
    · exact h.sm g hg
theorem row_keep {B n : Nat} {W W' : World} {v : Value} {len : Nat} {xs : List Value} (h : W.ownsRow n 25 3 v len xs) (hk : Keep B W W') (hB : B < n) : W'.ownsRow n 25 3 v len xs := by
  refine h.kept (row := some B) ⟨hk.os, hk.tape, hk.output, hk.size, fun k hk' hne => hk.block k hk' (fun e => hne (by rw [e]))⟩ ?_
  rcases h.2 with ⟨e, _⟩ | ⟨g, cap, cur, e, hg, _⟩
  · exact .inl (by rw [e]; rfl)
  · refine .inr ?_
    rw [e]
    show some g ≠ some B
    intro e2
    have := Option.some.inj e2
    omega
theorem keep_low {B n : Nat} {w W W' : World} (h : Keep B w W) (hb : Below n W W') (hn : w.heap.size ≤ n) : Keep B w W' := ⟨hb.os.trans h.os, hb.tape.trans h.tape, hb.output.trans h.output, Nat.le_trans h.size hb.size, fun k hk hne => (hb.block k (by omega)).trans (h.block k hk hne)⟩
/-- The source, and a row under way from block n on. -/
structure QO (B n : Nat) (w W : World) (v : Value) (rs : List Crs) : Prop where
  src : IsSrc B W
  kp : Keep B w W
  hB : B < w.heap.size
  hn : w.heap.size ≤ n
  hnW : n ≤ W.heap.size
  row : W.ownsRow n 25 3 v rs.length (clCss rs)
  sm : ∀ g ∈ rs, SmC g
theorem QO.keep {B n : Nat} {w W W' : World} {v : Value} {rs : List Crs} (h : QO B n w W v rs) (hk : Keep B W W') (hs : IsSrc B W') : QO B n w W' v rs := by
  have h1 := h.hB
  have h2 := h.hn
  exact ⟨hs, h.kp.trans hk, h.hB, h.hn, Nat.le_trans h.hnW hk.size, row_keep h.row hk (by omega), h.sm⟩
theorem QO.below {B n : Nat} {w W W' : World} {v : Value} {rs : List Crs} (h : QO B n w W v rs) (hb : Below W.heap.size W W') : QO B n w W' v rs := h.keep (Keep.of_below hb) (h.src.below (hb.mono h.src.lt))
theorem QO.grow {B n : Nat} {w W W' : World} {v v' : Value} {rs ts : List Crs} {o : Obj} (h : QO B n w W v rs) (hrow : (W.alloc o).ownsRow n 25 3 v rs.length (clCss rs)) (hown : W'.ownsRow n 25 3 v' ts.length (clCss ts)) (hg : (W.alloc o).grownBy W' v.ownBlock) (hs : ∀ g ∈ ts, SmC g) : QO B n w W' v' ts := by
  have h1 := h.hB
  have h2 := h.hn
  have h3 := h.hnW
  have hb : Below n W W' := grow_below ((Below.refl _ _).alloc h3 o) hrow hg (by simp; omega)
  exact ⟨h.src.below (hb.mono (by omega)), keep_low h.kp hb h2, h1, h2, Nat.le_trans h3 hb.size, hown, hs⟩
theorem QO.fin {B n : Nat} {w W : World} {v : Value} {rs : List Crs} (h : QO B n w W v rs) (hne : rs ≠ []) (hl : rs.length ≤ 250) : QC B w W v rs := by
  have h2 := h.hn
  obtain ⟨b, hb, hL⟩ := LCs.of_owns h.row (by omega) (fun i g hi => (h.sm g (List.mem_of_getElem? hi)).max)
  obtain ⟨a, cap, e, hs⟩ := hL.shape
  refine ⟨h.src, h.kp, h.hB, ⟨b, by omega, hL⟩, ⟨⟨b, 0, none⟩, cap, ?_⟩, h.sm, hl⟩
  rw [e, (hs hne).1]
set_option maxRecDepth 100000 in
set_option maxHeartbeats 2000000 in
theorem l08Crosses_any (B : Nat) (w : World) (hS : IsSrc B w) :
    Calls Try.prog 14 #[.pointer (some ⟨B, 0, none⟩)] w fun e w' => ∃ (v : Value) (rs : List Crs), e = .returned v ∧ QC B w w' v rs := by
  have hB := hS.lt
  have ha1 : Below w.heap.size w (w.alloc (.cells #[] 25)) := (Below.refl _ _).alloc (Nat.le_refl _) _
  have H1 : Hid (QC B w (w.alloc (.cells #[] 25)) (.slice (some ⟨w.heap.size, 0, none⟩) 0 0) []) := ⟨hS.below (ha1.mono hB), Keep.of_below ha1, hB, ow0 _ _ _ _, ⟨_, _, rfl⟩, (fun g hg => by cases hg), by simp⟩
  clear hS ha1
  go_enter Try.func14, Try.ntmps14
  go_upto_region 2 with fail
  go_wp2_with fail
  refine (n_any B 6 _ (by omega) (by omega) H1.out.src).mono ?_
  rintro e w1 ⟨n, rfl, n0, n1, s1, k1⟩
  have H2 : Hid (QC B w w1 (.slice (some ⟨w.heap.size, 0, none⟩) 0 0) []) := H1.out.keep k1 s1
  clear H1 s1 k1
  obtain ⟨n, rfl⟩ : ∃ m : Nat, n = (m : Int) := ⟨n.toNat, by omega⟩
  go_wp2_with fail
  go_loopw [3, 4] (fun ov kv wr => ∃ (k : Nat) (rs : List Crs), kv = .int .i64 (k : Int) ∧ k + rs.length ≤ 6 ∧ QC B w wr ov rs) (fun _ kv _ => (intOf kv).toNat)
  case atStart => exact ⟨n, [], rfl, by simp; omega, H2.out⟩
  case round =>
    obtain ⟨k, rs, rfl, hk, hq⟩ := hrel
    obtain ⟨ad, C, rfl⟩ := hq.sh
    by_cases h0 : 0 < k
    · have h0' : (0 : Int) < (k : Int) := by omega
      have HQ : Hid (QC B w wr (.slice (some ad) rs.length C) rs) := hq
      clear hq
      go_wp2_with fail
      refine (l08Cross_any B _ HQ.out.src).mono ?_
      rintro e w3 ⟨c, rfl, hc, s3, k3⟩
      have H3 : Hid (QC B w w3 (.slice (some ad) rs.length C) rs) := HQ.out.keep k3 s3
      have hc' : SmC c := crsB_sizes hc
      clear s3 k3 HQ
      go_wp2_with fail
      refine (crossPut_specO rs ad C c _ H3.out.ow.row hc'.max).mono ?_
      rintro e w4 ⟨u, rfl, ho, hb⟩
      have H4 : Hid (QC B w w4 u (putT rs c)) := H3.out.put hc (by omega) ho hb
      have hl4 := putT_len rs c
      clear ho hb H3
      go_wp2_with fail
      go_roundw
      case rel => exact ⟨k - 1, putT rs c, by go_num, by omega, H4.out⟩
      case measure => simp [intOf]; omega
    · obtain rfl : k = 0 := by omega
      have HQ : Hid (QC B w wr (.slice (some ad) rs.length C) rs) := hq
      clear hq
      go_upto_region 6 with fail
      go_wp2_with fail
      refine (one_any B 12 _ (by omega) (by omega) HQ.out.src).mono ?_
      rintro e w5 ⟨on, rfl, s5, k5⟩
      have H5 : Hid (QC B w w5 (.slice (some ad) rs.length C) rs) := HQ.out.keep k5 s5
      clear s5 k5 HQ
      go_upto_if 18 with fail
      go_cut [3] from 19 to 25 (fun ov wx => ∃ rs, QC B w wx ov rs)
      case first =>
        cases on with
        | false =>
          go_wp2_with fail
          go_meet
          exact ⟨rs, H5.out⟩
        | true =>
          have hz5 := H5.out.kp.size
          have hl5 := H5.out.len
          have hrowE : (w5.alloc (.cells #[] 25)).ownsRow w5.heap.size 25 3 (.slice (some ⟨w5.heap.size, 0, none⟩) ([] : List Crs).length 0) ([] : List Crs).length (clCss []) := own0 w5 (Nat.le_refl _)
          have hrowL : RowCs (w5.alloc (.cells #[] 25)) (.slice (some ad) rs.length C) rs := H5.out.ow.row.below ((Below.refl _ _).alloc (Nat.le_refl _) _)
          go_wp2_with (first | (at_builtin; refine wpList_appsCs rfl _ _ rfl rfl rfl hrowE hrowL (by simp; omega) (by simp) ?_; rintro v1 w6 hown1 hgrow1 ⟨A1, C1, rfl⟩))
          simp only [List.nil_append] at hown1
          have hb6 : Below w5.heap.size w5 w6 := grow_below ((Below.refl _ _).alloc (Nat.le_refl _) _) hrowE hgrow1 (by simp)
          have H6 : Hid (QO B w5.heap.size w w6 (.slice A1 rs.length C1) rs) := ⟨H5.out.src.below (hb6.mono H5.out.src.lt), H5.out.kp.trans (Keep.of_below hb6), hB, hz5, hb6.size, hown1, H5.out.sm⟩
          clear hown1 hgrow1 hb6 hrowE hrowL
          try simp only [List.nil_append]
          go_wp2_with fail
          refine (l08Cross_any B _ H6.out.src).mono ?_
          rintro e w7 ⟨c, rfl, hc, s7, k7⟩
          have H7 : Hid (QO B w5.heap.size w w7 (.slice A1 rs.length C1) rs) := H6.out.keep k7 s7
          have hc' : SmC c := crsB_sizes hc
          clear s7 k7 H6
          have hrow : (w7.alloc (.cells #[.string c.partner, .string c.theirs, .string c.own] 25)).ownsRow w5.heap.size 25 3 (.slice A1 rs.length C1) rs.length (clCss rs) := H7.out.row.alloc _
          have hs7 := H7.out.hnW
          go_wp2_with (first | (at_builtin; refine wpList_appCs rfl _ _ rfl rfl rfl hrow at_new (by omega) (by simp; omega) ?_; rintro v4 w8 hown4 hgrow4 ⟨A4, C4, rfl⟩))
          have hfin := H7.out.grow hrow hown4 hgrow4 (fun g hg => by
            rcases List.mem_append.1 hg with hg | hg
            · exact H7.out.sm g hg
            · rw [List.mem_singleton.1 hg]; exact hc')
          go_meet
          exact ⟨rs ++ [c], by simpa using hfin.fin (by simp) (by simp; omega)⟩
      case rest =>
        obtain ⟨rs2, hq2⟩ := hcut
        rename World => w9
        have H9 : Hid (QC B w w9 u3 rs2) := hq2
        clear hq2 H5
        go_upto_region 8 with fail
        go_wp2_with fail
        refine (one_any B 40 _ (by omega) (by omega) H9.out.src).mono ?_
        rintro e w10 ⟨on2, rfl, s10, k10⟩
        have H10 : Hid (QC B w w10 u3 rs2) := H9.out.keep k10 s10
        clear s10 k10 H9
        go_upto_if 27 with fail
        go_cut [3] from 28 to 47 (fun ov wx => ∃ rs, QC B w wx ov rs)
        case first =>
          cases on2 with
          | false =>
            go_wp2_with fail
            go_meet
            exact ⟨rs2, H10.out⟩
          | true =>
            have hz10 := H10.out.kp.size
            have hb11 : Below w10.heap.size w10 (w10.alloc (.cells #[] 25)) := (Below.refl _ _).alloc (Nat.le_refl _) _
            have H11 : Hid (QO B w10.heap.size w (w10.alloc (.cells #[] 25)) (.slice (some ⟨w10.heap.size, 0, none⟩) 0 0) []) := ⟨H10.out.src.below (hb11.mono H10.out.src.lt), H10.out.kp.trans (Keep.of_below hb11), hB, hz10, hb11.size, own0 w10 (Nat.le_refl _), (fun g hg => by cases hg)⟩
            clear hb11
            go_wp2_with fail
            go_loopw [3, 5] (fun ov iv wr => ∃ (k : Nat) (acc : List Crs), iv = .int .i64 (k : Int) ∧ acc.length = k ∧ k ≤ 201 ∧ (∃ A C, ov = .slice A k C) ∧ QO B w10.heap.size w wr ov acc) (fun _ iv _ => 300 - (intOf iv).toNat)
            case atStart => exact ⟨0, [], rfl, rfl, by omega, ⟨_, _, rfl⟩, H11.out⟩
            case round =>
              obtain ⟨k, acc, rfl, hak, hk, ⟨A, Cc, rfl⟩, hq⟩ := hrel
              have HQ : Hid (QO B w10.heap.size w wr (.slice A k Cc) acc) := hq
              clear hq
              go_wp2_with fail
              refine (n_any B 3 _ (by omega) (by omega) HQ.out.src).mono ?_
              rintro e wa ⟨x, rfl, x0, x1, sa, ka⟩
              have HA : Hid (QO B w10.heap.size w wa (.slice A k Cc) acc) := HQ.out.keep ka sa
              clear sa ka HQ
              by_cases hlt : (k : Int) < 199 + x
              · have hlt' : ¬ 199 + x ≤ (k : Int) := by omega
                go_wp2_with fail
                have D1 := dec_small (1000 + k) wa (by omega)
                rw [show ((1000 + k : Nat) : Int) = 1000 + (k : Int) by omega] at D1
                refine D1.mono ?_
                rintro e wb ⟨s1, rfl, hs1, hb1⟩
                have HB : Hid (QO B w10.heap.size w wb (.slice A k Cc) acc) := HA.out.below hb1
                have hsum1 : ¬ 9223372036854775807 < 1 + s1.size := by omega
                clear hb1 D1 HA
                go_wp2_with fail
                refine (dec_small k _ (by omega)).mono ?_
                rintro e wc ⟨s2, rfl, hs2, hb2⟩
                have HC : Hid (QO B w10.heap.size w wc (.slice A k Cc) acc) := HB.out.below hb2
                have hsum2 : ¬ 9223372036854775807 < 1 + s2.size := by omega
                clear hb2 HB
                have hsm : SmC ⟨⟨#[65]⟩, (⟨#[78]⟩ : ByteArray) ++ s1, (⟨#[77]⟩ : ByteArray) ++ s2⟩ := by
                  refine ⟨show (⟨#[65]⟩ : ByteArray).size ≤ 12 by decide, ?_, ?_⟩
                  · show ((⟨#[78]⟩ : ByteArray) ++ s1).size ≤ 12
                    rw [ByteArray.size_append, show (⟨#[78]⟩ : ByteArray).size = 1 from rfl]
                    omega
                  · show ((⟨#[77]⟩ : ByteArray) ++ s2).size ≤ 12
                    rw [ByteArray.size_append, show (⟨#[77]⟩ : ByteArray).size = 1 from rfl]
                    omega
                have hrow : (wc.alloc (.cells #[.string ⟨#[65]⟩, .string ((⟨#[78]⟩ : ByteArray) ++ s1), .string ((⟨#[77]⟩ : ByteArray) ++ s2)] 25)).ownsRow w10.heap.size 25 3 (.slice A k Cc) acc.length (clCss acc) := HC.out.row.alloc _
                have hs7 := HC.out.hnW
                go_wp2_with (first | (at_builtin; refine wpList_appCs rfl _ _ rfl rfl rfl hrow (at_new (d := ⟨⟨#[65]⟩, (⟨#[78]⟩ : ByteArray) ++ s1, (⟨#[77]⟩ : ByteArray) ++ s2⟩)) (by omega) (by simp; omega) ?_; rintro v4 w8 hown4 hgrow4 ⟨A4, C4, rfl⟩))
                have hfin := HC.out.grow hrow hown4 hgrow4 (fun g hg => by
                  rcases List.mem_append.1 hg with hg | hg
                  · exact HC.out.sm g hg
                  · rw [List.mem_singleton.1 hg]; exact hsm)
                have hal : (acc ++ [(⟨⟨#[65]⟩, (⟨#[78]⟩ : ByteArray) ++ s1, (⟨#[77]⟩ : ByteArray) ++ s2⟩ : Crs)]).length = k + 1 := by simp [hak]
                rw [hal] at hfin
                try simp only [hal]
                have HF : Hid (QO B w10.heap.size w w8 (.slice A4 (k + 1) C4) (acc ++ [⟨⟨#[65]⟩, (⟨#[78]⟩ : ByteArray) ++ s1, (⟨#[77]⟩ : ByteArray) ++ s2⟩])) := hfin
                clear hfin hown4 hgrow4 hrow
                go_wp2_with fail
                go_roundw
                case rel => exact ⟨k + 1, _, by go_num, hal, by omega, ⟨A4, C4, rfl⟩, HF.out⟩
                case measure => simp [intOf]; omega
              · have hlt' : 199 + x ≤ (k : Int) := by omega
                go_wp2_with fail
                go_meet
                exact ⟨acc, HA.out.fin (by intro e; rw [e] at hak; simp at hak; omega) (by omega)⟩
        case rest =>
          obtain ⟨rs3, hq3⟩ := hcut
          rename World => wz
          have HZ : Hid (QC B w wz u3 rs3) := hq3
          clear hq3
          go_wp2
          go_ret
          exact ⟨_, rs3, rfl, HZ.out⟩
end Go.Proofs.Ytfdfanleigcfpaa
