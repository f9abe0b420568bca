/- Contract of the model's l09Lines: some list of lines whose texts are short. -/
import Derived.Test.YtppfobeencnbdaaLnD
import Derived.Test.YtppfobeencnbdaaInsF
import Derived.Deep.Cut
import Derived.Deep.CutRange
namespace Go.Proofs.Ytppfobeencnbdaa
open Go.ChangeShapes Go.WideShapes Go.ChangeAt Go.RowKit
theorem SmL.max {l : OLn} (h : SmL l) : l.partner.size ≤ 9223372036854775807 ∧ l.ref.size ≤ 9223372036854775807 ∧ l.item.size ≤ 9223372036854775807 := by
  obtain ⟨h1, h2, h3⟩ := h
  omega
/-- The source, and a list in blocks of the call's own. -/
structure QLn (B : Nat) (w W : World) (v : Value) (rs : List OLn) : Prop where
  src : IsSrc B W
  kp : Keep B w W
  hB : B < w.heap.size
  row : RowOl W v rs
  sh : ∃ ad C, v = .slice (some ad) rs.length C ∧ w.heap.size ≤ ad.block
  sm : ∀ g ∈ rs, SmL g
theorem rowOl_keep {B : Nat} {W W' : World} {ad : Addr} {C : Nat} {rs : List OLn} (h : RowOl W (.slice (some ad) rs.length C) rs) (hk : Keep B W W') (hB : ad.block ≠ B) : RowOl W' (.slice (some ad) rs.length C) rs := by
  obtain ⟨A', C', e, hc⟩ := h.shape
  simp only [Value.slice.injEq, true_and] at e
  obtain ⟨rfl, rfl⟩ := e
  refine ⟨⟨_, _, rfl, fun hn => ?_⟩, h.len, h.sizes⟩
  obtain ⟨b, o, e, hcell⟩ := hc hn
  cases e
  refine ⟨b, o, rfl, fun i g hi => ?_⟩
  obtain ⟨q0, q1, q2, q3, q4, q5, q6, q7⟩ := hcell i g hi
  exact ⟨hk.cell q0 hB, hk.cell q1 hB, hk.cell q2 hB, hk.cell q3 hB, hk.cell q4 hB, hk.cell q5 hB, hk.cell q6 hB, hk.cell q7 hB⟩
theorem QLn.keep {B : Nat} {w W W' : World} {v : Value} {rs : List OLn} (h : QLn B w W v rs) (hk : Keep B W W') (hs : IsSrc B W') : QLn B w W' v rs := by
  obtain ⟨ad, C, rfl, ha⟩ := h.sh
  have hB := h.hB
  exact ⟨hs, h.kp.trans hk, hB, rowOl_keep h.row hk (by omega), ⟨ad, C, rfl, ha⟩, h.sm⟩
theorem QLn.put {B : Nat} {w W W' : World} {v : Value} {rs : List OLn} {l : OLn} {ad : Addr} {C : Nat} (h : QLn B w W v rs) (hl : SmL l) (hr : RowOl W' (.slice (some ad) (addT rs l).length C) (addT rs l)) (ha : W.heap.size ≤ ad.block) (hb : Below W.heap.size W W') : QLn B w W' (.slice (some ad) (addT rs l).length C) (addT rs l) :=
  ⟨h.src.below (hb.mono h.src.lt), h.kp.trans (Keep.of_below hb), h.hB, hr, ⟨ad, C, rfl, Nat.le_trans h.kp.size ha⟩, fun g hg => by
    rcases addT_mem hg with rfl | hg
    · exact hl
    · exact h.sm g hg⟩
theorem row_keepL {B n : Nat} {W W' : World} {v : Value} {len : Nat} {xs : List Value} (h : W.ownsRow n 31 8 v len xs) (hk : Keep B W W') (hB : B < n) : W'.ownsRow n 31 8 v len xs := by
  refine h.kept (row := some B) ⟨hk.os, hk.tape, hk.output, hk.size, fun k hk' hne => hk.block k hk' (fun e => hne (by rw [e]))⟩ ?_
  rcases h.2 with ⟨e, _⟩ | ⟨g, cap, cur, e, hg, _⟩
  · exact .inl (by rw [e]; rfl)
  · refine .inr ?_
    rw [e]
    show some g ≠ some B
    intro e2
    have := Option.some.inj e2
    omega
theorem keep_lowL {B n : Nat} {w W W' : World} (h : Keep B w W) (hb : Below n W W') (hn : w.heap.size ≤ n) : Keep B w W' := ⟨hb.os.trans h.os, hb.tape.trans h.tape, hb.output.trans h.output, Nat.le_trans h.size hb.size, fun k hk hne => (hb.block k (by omega)).trans (h.block k hk hne)⟩
/-- The source, and a row under way from block n on. -/
structure QW (B n : Nat) (w W : World) (v : Value) (rs : List OLn) : Prop where
  src : IsSrc B W
  kp : Keep B w W
  hB : B < w.heap.size
  hn : w.heap.size ≤ n
  hnW : n ≤ W.heap.size
  row : W.ownsRow n 31 8 v rs.length (clOls rs)
  sm : ∀ g ∈ rs, SmL g
theorem QW.keep {B n : Nat} {w W W' : World} {v : Value} {rs : List OLn} (h : QW B n w W v rs) (hk : Keep B W W') (hs : IsSrc B W') : QW B n w W' v rs := by
  have h1 := h.hB
  have h2 := h.hn
  exact ⟨hs, h.kp.trans hk, h.hB, h.hn, Nat.le_trans h.hnW hk.size, row_keepL h.row hk (by omega), h.sm⟩
theorem QW.grow {B n : Nat} {w W W' : World} {v v' : Value} {rs ts : List OLn} {o : Obj} (h : QW B n w W v rs) (hrow : (W.alloc o).ownsRow n 31 8 v rs.length (clOls rs)) (hown : W'.ownsRow n 31 8 v' ts.length (clOls ts)) (hg : (W.alloc o).grownBy W' v.ownBlock) (hs : ∀ g ∈ ts, SmL g) : QW B n w W' v' ts := by
  have h1 := h.hB
  have h2 := h.hn
  have h3 := h.hnW
  have hb : Below n W W' := ((Below.refl _ _).alloc h3 o).trans ⟨hg.os, hg.tape, hg.output, hg.size, fun q hq => hg.block q (by simp; omega) (fun e => by have := (hrow.lt q e.symm).1; omega)⟩
  exact ⟨h.src.below (hb.mono (by omega)), keep_lowL h.kp hb h2, h1, h2, Nat.le_trans h3 hb.size, hown, hs⟩
theorem QW.fin {B n : Nat} {w W : World} {v : Value} {rs : List OLn} (h : QW B n w W v rs) (hne : rs ≠ []) (hl : rs.length ≤ 1000) : QLn B w W v rs := by
  have h2 := h.hn
  obtain ⟨b, hb, hL⟩ := LOl.of_owns h.row (by omega) (fun i g hi => (h.sm g (List.mem_of_getElem? hi)).max)
  obtain ⟨a, cap, e, hs⟩ := hL.shape
  refine ⟨h.src, h.kp, h.hB, hL.row, ⟨⟨b, 0, none⟩, cap, ?_, by show w.heap.size ≤ b; omega⟩, h.sm⟩
  rw [e, (hs hne).1]
set_option maxRecDepth 100000 in
set_option maxHeartbeats 4000000 in
theorem l09Lines_any (B : Nat) (w : World) (hS : IsSrc B w) :
    Calls Try.prog 16 #[.pointer (some ⟨B, 0, none⟩)] w fun e w' => ∃ (v : Value) (rs : List OLn), e = .returned v ∧ QLn B w w' v rs ∧ rs.length ≤ 250 := by
  have hB := hS.lt
  have ha1 : Below w.heap.size w (w.alloc (.cells #[] 31)) := (Below.refl _ _).alloc (Nat.le_refl _) _
  have H1 : Hid (QLn B w (w.alloc (.cells #[] 31)) (.slice (some ⟨w.heap.size, 0, none⟩) 0 0) []) := ⟨hS.below (ha1.mono hB), Keep.of_below ha1, hB, ⟨⟨_, _, rfl, fun h => absurd rfl h⟩, by simp, fun i g hi => by simp at hi⟩, ⟨_, _, rfl, Nat.le_refl _⟩, (fun g hg => by cases hg)⟩
  obtain ⟨a9, len9, cap9, zs9, at9, mix9, size, hSA⟩ := H1.out.src
  have hc3 := hSA.c3
  have hz0 := hSA.size0
  have hz1 := hSA.size1
  clear hS ha1 hSA
  go_enter Try.func16, Try.ntmps16
  go_upto_region 2 with fail
  go_wp2_with fail
  refine (n_any B _ _ (by omega) (by omega) H1.out.src).mono ?_
  rintro e w1 ⟨n, rfl, n0, n1, s1, k1⟩
  have H2 : Hid (QLn B w w1 (.slice (some ⟨w.heap.size, 0, none⟩) 0 0) []) := H1.out.keep k1 s1
  clear H1 s1 k1 hc3
  obtain ⟨n, rfl⟩ : ∃ m : Nat, n = (m : Int) := ⟨n.toNat, by omega⟩
  have hn16 : n ≤ 16 := by omega
  clear n0 n1
  go_wp2_with fail
  go_loopw [3, 4] (fun ov kv wr => ∃ (k : Nat) (rs : List OLn), kv = .int .i64 (k : Int) ∧ k + rs.length ≤ 16 ∧ QLn B w wr ov rs) (fun _ kv _ => (RowKit.intOf kv).toNat)
  case atStart => exact ⟨n, [], rfl, by simp; omega, H2.out⟩
  case round =>
    obtain ⟨k, rs, rfl, hk, hq⟩ := hrel
    obtain ⟨ad, C, rfl, had⟩ := hq.sh
    by_cases h0 : 0 < k
    · have h0' : (0 : Int) < (k : Int) := by omega
      have HQ : Hid (QLn B w wr (.slice (some ad) rs.length C) rs) := hq
      clear hq
      go_wp2_with fail
      refine (l09Line_any B _ HQ.out.src).mono ?_
      rintro e w3 ⟨l, rfl, hc', s3, k3⟩
      have H3 : Hid (QLn B w w3 (.slice (some ad) rs.length C) rs ∧ SmL l) := ⟨HQ.out.keep k3 s3, hc'⟩
      clear s3 k3 HQ hc'
      go_wp2_with fail
      refine (linesAdd_specO ad C rs l _ H3.out.1.row H3.out.2.max).mono ?_
      rintro e w4 ⟨ad4, C4, rfl, hr4, ha4, hb4⟩
      have H4 : Hid (QLn B w w4 (.slice (some ad4) (addT rs l).length C4) (addT rs l)) := H3.out.1.put H3.out.2 hr4 ha4 hb4
      have hl4 := addT_len rs l
      clear hr4 ha4 hb4 H3
      go_wp2_with fail
      go_roundw
      case rel => exact ⟨k - 1, addT rs l, by go_num, by omega, H4.out⟩
      case measure => simp [RowKit.intOf]; omega
    · obtain rfl : k = 0 := by omega
      have HQ : Hid (QLn B w wr (.slice (some ad) rs.length C) rs) := hq
      clear hq
      go_upto_region 6 with fail
      go_wp2_with fail
      refine (one_any B 50 _ (by omega) (by omega) HQ.out.src).mono ?_
      rintro e w5 ⟨on, rfl, s5, k5⟩
      have H5 : Hid (QLn B w w5 (.slice (some ad) rs.length C) rs) := HQ.out.keep k5 s5
      clear s5 k5 HQ
      go_upto_if 23 with fail
      go_cut [3] from 24 to 38 (fun ov wx => ∃ rs, QLn B w wx ov rs ∧ rs.length ≤ 210)
      case first =>
        cases on with
        | false =>
          go_wp2_with fail
          go_meet
          exact ⟨rs, H5.out, by omega⟩
        | true =>
          have hz10 := H5.out.kp.size
          have hb11 : Below w5.heap.size w5 (w5.alloc (.cells #[] 31)) := (Below.refl _ _).alloc (Nat.le_refl _) _
          have H11 : Hid (QW B w5.heap.size w (w5.alloc (.cells #[] 31)) (.slice (some ⟨w5.heap.size, 0, none⟩) 0 0) []) := ⟨H5.out.src.below (hb11.mono H5.out.src.lt), H5.out.kp.trans (Keep.of_below hb11), hB, hz10, hb11.size, own0Ol w5 (Nat.le_refl _), (fun g hg => by cases hg)⟩
          clear hb11
          go_wp2_with fail
          go_loopw [3, 5] (fun ov iv wr => ∃ (k : Nat) (acc : List OLn), iv = .int .i64 (k : Int) ∧ acc.length = k ∧ k ≤ 201 ∧ (∃ A C, ov = .slice A k C) ∧ QW B w5.heap.size w wr ov acc) (fun _ iv _ => 300 - (RowKit.intOf iv).toNat)
          case atStart => exact ⟨0, [], rfl, rfl, by omega, ⟨_, _, rfl⟩, H11.out⟩
          case round =>
            obtain ⟨k, acc, rfl, hak, hk2, ⟨A, Cc, rfl⟩, hq⟩ := hrel
            have HQ : Hid (QW B w5.heap.size w wr (.slice A k Cc) acc) := hq
            clear hq
            go_wp2_with fail
            refine (n_any B 3 _ (by omega) (by omega) HQ.out.src).mono ?_
            rintro e w12 ⟨y, rfl, y0, y1, s12, k12⟩
            have H12 : Hid (QW B w5.heap.size w w12 (.slice A k Cc) acc) := HQ.out.keep k12 s12
            clear s12 k12 HQ
            by_cases hge : (k : Int) < 199 + y
            · have hk201 : k < 201 := by omega
              obtain ⟨acc2, hacc2⟩ : ∃ a, a = acc := ⟨_, rfl⟩
              have hrow : (w12.alloc (.cells #[.string ⟨#[65, 67, 77, 69]⟩, .string ⟨#[80, 79, 45, 49]⟩, .int .i64 ((k : Int) + 1), .string ⟨#[78, 85, 84]⟩, .int .i64 5, .int .i64 0, .int .i64 0, .int .i64 0] 31)).ownsRow w5.heap.size 31 8 (.slice A acc.length Cc) acc.length (clOls acc) := by
                rw [hak]
                have := H12.out.row
                rw [hak] at this
                exact this.alloc _
              have hrowK : (w12.alloc (.cells #[.string ⟨#[65, 67, 77, 69]⟩, .string ⟨#[80, 79, 45, 49]⟩, .int .i64 ((k : Int) + 1), .string ⟨#[78, 85, 84]⟩, .int .i64 5, .int .i64 0, .int .i64 0, .int .i64 0] 31)).ownsRow w5.heap.size 31 8 (.slice A k Cc) acc.length (clOls acc) := by
                have := hrow
                rw [hak] at this ⊢
                exact this
              have hat : AtOl (w12.alloc (.cells #[.string ⟨#[65, 67, 77, 69]⟩, .string ⟨#[80, 79, 45, 49]⟩, .int .i64 ((k : Int) + 1), .string ⟨#[78, 85, 84]⟩, .int .i64 5, .int .i64 0, .int .i64 0, .int .i64 0] 31)) w12.heap.size 0 ⟨⟨#[65, 67, 77, 69]⟩, ⟨#[80, 79, 45, 49]⟩, (k : Int) + 1, ⟨#[78, 85, 84]⟩, 5, 0, 0, 0⟩ := at_newOl w12 ⟨⟨#[65, 67, 77, 69]⟩, ⟨#[80, 79, 45, 49]⟩, (k : Int) + 1, ⟨#[78, 85, 84]⟩, 5, 0, 0, 0⟩
              have hs12 := H12.out.hnW
              have hacl : acc.length ≤ 201 := by omega
              have HAK : Hid (acc.length = k) := hak
              clear hak hacc2 hrow
              go_wp2_with (first | (at_builtin; refine wpList_appOl rfl _ _ rfl rfl rfl hrowK hat (by omega) (by simp; omega) ?_; rintro v4 w13 hown4 hgrow4 ⟨A4, C4, rfl⟩))
              have hfin := H12.out.grow hrowK hown4 hgrow4 (fun g hg => by
                rcases List.mem_append.1 hg with hg | hg
                · exact H12.out.sm g hg
                · rw [List.mem_singleton.1 hg]; exact ⟨show (⟨#[65, 67, 77, 69]⟩ : ByteArray).size ≤ 12 by decide, show (⟨#[80, 79, 45, 49]⟩ : ByteArray).size ≤ 12 by decide, show (⟨#[78, 85, 84]⟩ : ByteArray).size ≤ 12 by decide⟩)
              have HF : Hid _ := hfin
              clear hfin hown4 hgrow4 hrowK hat
              go_wp2_with fail
              go_roundw
              case rel =>
                have e1 := HAK.out
                have hX : (acc ++ [(⟨⟨#[65, 67, 77, 69]⟩, ⟨#[80, 79, 45, 49]⟩, (k : Int) + 1, ⟨#[78, 85, 84]⟩, 5, 0, 0, 0⟩ : OLn)]).length = k + 1 := by
                  rw [List.length_append, e1]
                  rfl
                have h13 := HF.out
                rw [hX] at h13
                refine ⟨k + 1, acc ++ [⟨⟨#[65, 67, 77, 69]⟩, ⟨#[80, 79, 45, 49]⟩, (k : Int) + 1, ⟨#[78, 85, 84]⟩, 5, 0, 0, 0⟩], by go_num, hX, by omega, ⟨A4, C4, ?_⟩, ?_⟩
                · first | rfl | rw [e1] | (rw [hX])
                · first | exact h13 | (rw [e1]; exact h13)
              case measure => simp [RowKit.intOf]; omega
            · have hne : acc ≠ [] := fun e => by rw [e] at hak; simp at hak; omega
              have HF : Hid (QLn B w w12 (.slice A k Cc) acc ∧ acc.length ≤ 210) := ⟨by have h12 := H12.out; exact h12.fin hne (by omega), by omega⟩
              go_wp2_with fail
              go_meet
              exact ⟨acc, HF.out.1, HF.out.2⟩
      case rest =>
        obtain ⟨rs2, hq2, hl2⟩ := hcut
        rename World => w9
        obtain ⟨ad2, C2, rfl, had2⟩ := hq2.sh
        have H9 : Hid (QLn B w w9 (.slice (some ad2) rs2.length C2) rs2) := hq2
        clear hq2 H5
        go_upto_region 12 with fail
        go_wp2_with fail
        refine (one_any B 15 _ (by omega) (by omega) H9.out.src).mono ?_
        rintro e w10 ⟨on2, rfl, s10, k10⟩
        have H10 : Hid (QLn B w w10 (.slice (some ad2) rs2.length C2) rs2) := H9.out.keep k10 s10
        clear s10 k10 H9
        cases on2 with
        | false =>
          go_wp2
          go_ret
          exact ⟨_, rs2, rfl, H10.out, by omega⟩
        | true =>
          have hz10 := H10.out.kp.size
          have hown := own0Ol w10 (Nat.le_refl w10.heap.size)
          have hrowL : RowOl (w10.alloc (.cells #[] 31)) (.slice (some ad2) rs2.length C2) rs2 := H10.out.row.below ((Below.refl _ _).alloc (Nat.le_refl _) _)
          have hownE : (w10.alloc (.cells #[] 31)).ownsRow w10.heap.size 31 8 (.slice (some ⟨w10.heap.size, 0, none⟩) ([] : List OLn).length 0) ([] : List OLn).length (clOls []) := hown
          go_wp2_with (first | (at_builtin; refine wpList_appsOl rfl _ _ rfl rfl rfl hownE hrowL (by simp; omega) (by simp) ?_; rintro v1 w11 hown1 hgrow1 ⟨A1, C1, rfl⟩))
          simp only [List.nil_append] at hown1
          have hb11 : Below w10.heap.size w10 w11 := ((Below.refl _ _).alloc (Nat.le_refl _) _).trans ⟨hgrow1.os, hgrow1.tape, hgrow1.output, hgrow1.size, fun q hq => hgrow1.block q (by simp; omega) (fun e => by have := (hownE.lt q e.symm).1; omega)⟩
          have H11 : Hid (QW B w10.heap.size w w11 (.slice A1 rs2.length C1) rs2) := ⟨H10.out.src.below (hb11.mono H10.out.src.lt), H10.out.kp.trans (Keep.of_below hb11), hB, hz10, hb11.size, hown1, H10.out.sm⟩
          clear hown1 hgrow1 hb11 hown hownE hrowL
          try simp only [List.nil_append]
          go_wp2_with fail
          refine (l09Line_any B _ H11.out.src).mono ?_
          rintro e w12 ⟨l, rfl, hc', s12, k12⟩
          have H12 : Hid (QW B w10.heap.size w w12 (.slice A1 rs2.length C1) rs2 ∧ SmL l) := ⟨H11.out.keep k12 s12, hc'⟩
          clear s12 k12 H11 hc'
          have hrow : (w12.alloc (.cells #[.string l.partner, .string l.ref, .int .i64 l.no, .string l.item, .int .i64 l.ordered, .int .i64 l.sent, .int .i64 l.got, .int .i64 l.cut] 31)).ownsRow w10.heap.size 31 8 (.slice A1 rs2.length C1) rs2.length (clOls rs2) := H12.out.1.row.alloc _
          have hs12 := H12.out.1.hnW
          go_wp2_with (first | (at_builtin; refine wpList_appOl rfl _ _ rfl rfl rfl hrow (at_newOl _ _) (by omega) (by simp; omega) ?_; rintro v4 w13 hown4 hgrow4 ⟨A4, C4, rfl⟩))
          have hfin := (H12.out.1.grow hrow hown4 hgrow4 (fun g hg => by
            rcases List.mem_append.1 hg with hg | hg
            · exact H12.out.1.sm g hg
            · rw [List.mem_singleton.1 hg]; exact H12.out.2)).fin (by simp) (by simp; omega)
          go_ret
          exact ⟨_, rs2 ++ [l], rfl, by simpa using hfin, by simp; omega⟩
end Go.Proofs.Ytppfobeencnbdaa
