/- Texts of ours put together: OuDb. -/
import Derived.Test.YtiakkpglnijapaaG10
import Derived.Test.YtiakkpglnijapaaG24
import Derived.Test.YtiakkpglnijapaaG13
import Derived.Test.YtiakkpglnijapaaG27
import Derived.Deep.Cut
import Derived.Deep.CutRange
namespace Go.Proofs.Ytiakkpglnijapaa
open Go.ChangeShapes Go.WideShapes Go.ChangeAt Go.RowKit
theorem SmO.max {l : OutR} (h : SmO l) : l.partner.size ≤ 9223372036854775807 ∧ l.text.size ≤ 9223372036854775807 := by
  obtain ⟨h1, h2⟩ := h
  omega
/-- The source, and a list in a block of the call's own. -/
structure QOu (B : Nat) (w W : World) (v : Value) (rs : List OutR) : Prop where
  src : IsSrc B W
  kp : Keep B w W
  hB : B < w.heap.size
  lo : ∃ b, w.heap.size ≤ b ∧ LOu b W v rs
  sm : ∀ g ∈ rs, SmO g
theorem lou_lt {b : Nat} {W : World} {v : Value} {rs : List OutR} (h : LOu b W v rs) (hn : rs ≠ []) : b < W.heap.size := by
  obtain ⟨a, cap, _, hc⟩ := h.shape
  obtain ⟨_, m, f, hR, _⟩ := hc hn
  obtain ⟨cur, hh, _⟩ := hR
  exact (Array.getElem?_eq_some_iff.1 hh).1
theorem QOu.keep {B : Nat} {w W W' : World} {v : Value} {rs : List OutR} (h : QOu B w W v rs) (hk : Keep B W W') (hs : IsSrc B W') : QOu B w W' v rs := by
  obtain ⟨b, hb, hL⟩ := h.lo
  have hB := h.hB
  exact ⟨hs, h.kp.trans hk, hB, ⟨b, hb, hL.of_block fun hn => hk.block b (lou_lt hL hn) (by omega)⟩, h.sm⟩
theorem QOu.below {B : Nat} {w W W' : World} {v : Value} {rs : List OutR} (h : QOu B w W v rs) (hb : Below W.heap.size W W') : QOu B w W' v rs := h.keep (Keep.of_below hb) (h.src.below (hb.mono h.src.lt))
theorem QOu.row {B : Nat} {w W : World} {v : Value} {rs : List OutR} (h : QOu B w W v rs) : RowOu W v rs := by
  obtain ⟨b, _, hL⟩ := h.lo
  exact hL.row
theorem row_keepO {B n : Nat} {W W' : World} {v : Value} {len : Nat} {xs : List Value} (h : W.ownsRow n 25 5 v len xs) (hk : Keep B W W') (hB : B < n) : W'.ownsRow n 25 5 v len xs := by
  refine h.kept (row := some B) ⟨hk.os, hk.tape, hk.output, hk.size, fun k hk' hne => hk.block k hk' (fun e => hne (by rw [e]))⟩ ?_
  rcases h.2 with ⟨e, _⟩ | ⟨g, cap, cur, e, hg, _⟩
  · exact .inl (by rw [e]; rfl)
  · refine .inr ?_
    rw [e]
    show some g ≠ some B
    intro e2
    have := Option.some.inj e2
    omega
theorem keep_lowO {B n : Nat} {w W W' : World} (h : Keep B w W) (hb : Below n W W') (hn : w.heap.size ≤ n) : Keep B w W' := ⟨hb.os.trans h.os, hb.tape.trans h.tape, hb.output.trans h.output, Nat.le_trans h.size hb.size, fun k hk hne => (hb.block k (by omega)).trans (h.block k hk hne)⟩
/-- The source, and a row under way from block n on. -/
structure QW (B n : Nat) (w W : World) (v : Value) (rs : List OutR) : Prop where
  src : IsSrc B W
  kp : Keep B w W
  hB : B < w.heap.size
  hn : w.heap.size ≤ n
  hnW : n ≤ W.heap.size
  row : W.ownsRow n 25 5 v rs.length (clOus rs)
  sm : ∀ g ∈ rs, SmO g
theorem QW.keep {B n : Nat} {w W W' : World} {v : Value} {rs : List OutR} (h : QW B n w W v rs) (hk : Keep B W W') (hs : IsSrc B W') : QW B n w W' v rs := by
  have h1 := h.hB
  have h2 := h.hn
  exact ⟨hs, h.kp.trans hk, h.hB, h.hn, Nat.le_trans h.hnW hk.size, row_keepO h.row hk (by omega), h.sm⟩
theorem QW.grow {B n : Nat} {w W W' : World} {v v' : Value} {rs ts : List OutR} {o : Obj} (h : QW B n w W v rs) (hrow : (W.alloc o).ownsRow n 25 5 v rs.length (clOus rs)) (hown : W'.ownsRow n 25 5 v' ts.length (clOus ts)) (hg : (W.alloc o).grownBy W' v.ownBlock) (hs : ∀ g ∈ ts, SmO g) : QW B n w W' v' ts := by
  have h1 := h.hB
  have h2 := h.hn
  have h3 := h.hnW
  have hb : Below n W W' := ((Below.refl _ _).alloc h3 o).trans ⟨hg.os, hg.tape, hg.output, hg.size, fun q hq => hg.block q (by simp; omega) (fun e => by have := (hrow.lt q e.symm).1; omega)⟩
  exact ⟨h.src.below (hb.mono (by omega)), keep_lowO h.kp hb h2, h1, h2, Nat.le_trans h3 hb.size, hown, hs⟩
theorem QW.fin {B n : Nat} {w W : World} {v : Value} {rs : List OutR} (h : QW B n w W v rs) (hl : rs.length ≤ 1000) : QOu B w W v rs := by
  have h2 := h.hn
  obtain ⟨b, hb, hL⟩ := LOu.of_owns h.row (by omega) (fun i g hi => (h.sm g (List.mem_of_getElem? hi)).max)
  exact ⟨h.src, h.kp, h.hB, ⟨b, by omega, hL⟩, h.sm⟩
set_option maxRecDepth 100000 in
set_option maxHeartbeats 4000000 in
theorem l12Outbox_any (B : Nat) (w : World) (hS : IsSrc B w) :
    Calls Try.prog 18 #[.pointer (some ⟨B, 0, none⟩)] w fun e w' => ∃ (v : Value) (rs : List OutR), e = .returned v ∧ QOu B w w' v rs ∧ rs.length ≤ 62 := by
  have hB := hS.lt
  have ha1 : Below w.heap.size w (w.alloc (.cells #[] 25)) := (Below.refl _ _).alloc (Nat.le_refl _) _
  have H1 : Hid (QOu B w (w.alloc (.cells #[] 25)) (.slice (some ⟨w.heap.size, 0, none⟩) 0 0) []) := ⟨hS.below (ha1.mono hB), Keep.of_below ha1, hB, ⟨w.heap.size, Nat.le_refl _, ⟨⟨_, _, rfl, fun h => absurd rfl h⟩, by simp, fun i g hi => by simp at hi⟩⟩, fun g hg => by cases hg⟩
  obtain ⟨a9, len9, cap9, zs9, at9, mix9, size, hSA⟩ := H1.out.src
  have hc3 := hSA.c3
  have hz0 := hSA.size0
  have hz1 := hSA.size1
  clear hS ha1 hSA
  go_enter Try.func18, Try.ntmps18
  go_upto_region 2 with fail
  go_wp2_with fail
  refine (n_any B _ _ (by omega) (by omega) H1.out.src).mono ?_
  rintro e w1 ⟨n, rfl, n0, n1, s1, k1⟩
  have H2 : Hid (QOu B w w1 (.slice (some ⟨w.heap.size, 0, none⟩) 0 0) []) := H1.out.keep k1 s1
  clear H1 s1 k1 hc3
  obtain ⟨n, rfl⟩ : ∃ m : Nat, n = (m : Int) := ⟨n.toNat, by omega⟩
  have hn16 : n ≤ 16 := by omega
  clear n0 n1
  go_wp2_with fail
  go_loopw [3, 4] (fun ov kv wr => ∃ (k : Nat) (rs : List OutR), kv = .int .i64 (k : Int) ∧ k + rs.length ≤ 16 ∧ (∃ A C, ov = .slice A rs.length C) ∧ QOu B w wr ov rs) (fun _ kv _ => (RowKit.intOf kv).toNat)
  case atStart => exact ⟨n, [], rfl, by simp; omega, ⟨_, _, rfl⟩, H2.out⟩
  case round =>
    obtain ⟨k, rs, rfl, hk, ⟨ad, C, rfl⟩, hq⟩ := hrel
    by_cases h0 : 0 < k
    · have h0' : (0 : Int) < (k : Int) := by omega
      have HQ : Hid (QOu B w wr (.slice ad rs.length C) rs) := hq
      clear hq
      go_wp2_with fail
      refine (l12Out_any B _ HQ.out.src).mono ?_
      rintro e w3 ⟨l, rfl, hc', s3, k3⟩
      have H3 : Hid (QOu B w w3 (.slice ad rs.length C) rs ∧ SmO l) := ⟨HQ.out.keep k3 s3, hc'⟩
      clear s3 k3 HQ hc'
      obtain ⟨P, hP⟩ : ∃ P, P = putO rs l := ⟨_, rfl⟩
      have QP := outboxPut_specO (.slice ad rs.length C) rs l w3 H3.out.1.row H3.out.2.max
      rw [← hP] at QP
      have HP : Hid (P = putO rs l ∧ P.list.length ≤ rs.length + 1 ∧ ∀ x ∈ P.list, SmO x) := ⟨hP, by rw [hP]; exact putO_len rs l, fun x hx => by
        rw [hP] at hx
        rcases putO_mem hx with rfl | hx
        · exact H3.out.2
        · exact H3.out.1.sm x hx⟩
      clear hP
      go_wp2_with fail
      refine QP.mono ?_
      rintro e w4 ⟨u, b4, rfl, hb4', hL4, hb4⟩
      obtain ⟨a4, C4, rfl, _⟩ := hL4.shape
      have hw3 := H3.out.1.kp.size
      have H4 : Hid (QOu B w w4 (.slice ad rs.length C) rs ∧ QOu B w w4 (.slice a4 P.list.length C4) P.list) := ⟨H3.out.1.below hb4, ⟨H3.out.1.src.below (hb4.mono H3.out.1.src.lt), H3.out.1.kp.trans (Keep.of_below hb4), hB, ⟨b4, by omega, hL4⟩, HP.out.2.2⟩⟩
      clear QP hb4' hL4 hb4 H3 hw3
      go_upto_region 6 with fail
      obtain ⟨W5, hW5⟩ : ∃ W5, w4.alloc (.cells #[.slice a4 P.list.length C4, .slice none 0 0, .slice none 0 0, .int .i64 P.code] 30) = W5 := ⟨_, rfl⟩
      obtain ⟨X, hX⟩ : ∃ X, X = w4.heap.size := ⟨_, rfl⟩
      have hb5 : Below w4.heap.size w4 W5 := by rw [← hW5]; exact (Below.refl _ _).alloc (Nat.le_refl _) _
      have hx5 : W5.heap[X]? = some (.cells #[.slice a4 P.list.length C4, .slice none 0 0, .slice none 0 0, .int .i64 P.code] 30) := by rw [← hW5, hX]; exact World.alloc_heap_new _ _
      try rw [hW5]
      try rw [← hX]
      have H5 : Hid (QOu B w W5 (.slice ad rs.length C) rs ∧ QOu B w W5 (.slice a4 P.list.length C4) P.list) := ⟨H4.out.1.below hb5, H4.out.2.below hb5⟩
      obtain ⟨y0, y1, y2, y3⟩ := bx4 hx5
      clear hW5 hX hb5 hx5 H4
      by_cases hz : P.code = 0
      · go_wp2_with fail
        go_roundw
        case rel => exact ⟨k - 1, P.list, by go_num, by have := HP.out.2.1; omega, ⟨_, _, rfl⟩, H5.out.2⟩
        case measure => simp [RowKit.intOf]; omega
      · go_wp2_with fail
        go_roundw
        case rel => exact ⟨k - 1, rs, by go_num, by omega, ⟨_, _, rfl⟩, H5.out.1⟩
        case measure => simp [RowKit.intOf]; omega
    · obtain rfl : k = 0 := by omega
      have HQ : Hid (QOu B w wr (.slice ad rs.length C) rs) := hq
      clear hq
      go_upto_region 8 with fail
      go_wp2_with fail
      refine (one_any B 15 _ (by omega) (by omega) HQ.out.src).mono ?_
      rintro e w5 ⟨on, rfl, s5, k5⟩
      have H5 : Hid (QOu B w w5 (.slice ad rs.length C) rs) := HQ.out.keep k5 s5
      clear s5 k5 HQ
      have hrs : rs.length ≤ 16 := by omega
      go_upto_if 29 with fail
      go_cut [3] from 30 to 36 (fun ov wx => ∃ rs, (∃ A C, ov = .slice A rs.length C) ∧ QOu B w wx ov rs ∧ rs.length ≤ 17)
      case first =>
        cases on with
        | false =>
          go_wp2_with fail
          go_meet
          exact ⟨rs, ⟨_, _, rfl⟩, H5.out, by omega⟩
        | true =>
          have hz10 := H5.out.kp.size
          have hrowL : RowOu (w5.alloc (.cells #[] 25)) (.slice ad rs.length C) rs := H5.out.row.below ((Below.refl _ _).alloc (Nat.le_refl _) _)
          have hownE : (w5.alloc (.cells #[] 25)).ownsRow w5.heap.size 25 5 (.slice (some ⟨w5.heap.size, 0, none⟩) ([] : List OutR).length 0) ([] : List OutR).length (clOus []) := own0Ou w5 (Nat.le_refl w5.heap.size)
          go_wp2_with (first | (at_builtin; refine wpList_anyOu rfl _ _ rfl rfl rfl hownE hrowL (by simp; omega) (by simp) ?_; rintro v1 w11 hown1 hgrow1 ⟨A1, C1, rfl⟩))
          simp only [List.nil_append] at hown1
          have hb11 : Below w5.heap.size w5 w11 := ((Below.refl _ _).alloc (Nat.le_refl _) _).trans hgrow1
          have H11 : Hid (QW B w5.heap.size w w11 (.slice A1 rs.length C1) rs) := ⟨H5.out.src.below (hb11.mono H5.out.src.lt), H5.out.kp.trans (Keep.of_below hb11), hB, hz10, hb11.size, hown1, H5.out.sm⟩
          clear hown1 hgrow1 hb11 hownE hrowL
          try simp only [List.nil_append]
          go_wp2_with fail
          refine (l12Out_any B _ H11.out.src).mono ?_
          rintro e w12 ⟨l, rfl, hc', s12, k12⟩
          have H12 : Hid (QW B w5.heap.size w w12 (.slice A1 rs.length C1) rs ∧ SmO l) := ⟨H11.out.keep k12 s12, hc'⟩
          clear s12 k12 H11 hc'
          have hrow : (w12.alloc (.cells #[.string l.partner, .int .i64 l.number, .string l.text, .int .i64 l.tries, .int .i64 l.due] 25)).ownsRow w5.heap.size 25 5 (.slice A1 rs.length C1) rs.length (clOus rs) := H12.out.1.row.alloc _
          have hs12 := H12.out.1.hnW
          go_wp2_with (first | (at_builtin; refine wpList_appOu rfl _ _ rfl rfl rfl hrow (at_newOu _ _) (by omega) (by simp; omega) ?_; rintro v4 w13 hown4 hgrow4 ⟨A4, C4, rfl⟩))
          have hfin := (H12.out.1.grow hrow hown4 hgrow4 (fun g hg => by
            rcases List.mem_append.1 hg with hg | hg
            · exact H12.out.1.sm g hg
            · rw [List.mem_singleton.1 hg]; exact H12.out.2)).fin (by simp; omega)
          have HF : Hid _ := hfin
          clear hfin hown4 hgrow4 hrow
          go_wp2_with fail
          go_meet
          exact ⟨rs ++ [l], ⟨A4, C4, by simp⟩, by simpa using HF.out, by simp; omega⟩
      case rest =>
        obtain ⟨rs2, ⟨ad2, C2, rfl⟩, hq2, hl2⟩ := hcut
        rename World => w9
        have H9 : Hid (QOu B w w9 (.slice ad2 rs2.length C2) rs2) := hq2
        clear hq2 H5
        go_upto_region 10 with fail
        go_wp2_with fail
        refine (one_any B 50 _ (by omega) (by omega) H9.out.src).mono ?_
        rintro e w10 ⟨on2, rfl, s10, k10⟩
        have H10 : Hid (QOu B w w10 (.slice ad2 rs2.length C2) rs2) := H9.out.keep k10 s10
        clear s10 k10 H9
        cases on2 with
        | false =>
          go_wp2
          go_ret
          exact ⟨_, rs2, rfl, H10.out, by omega⟩
        | true =>
          have hz10 := H10.out.kp.size
          have hb11 : Below w10.heap.size w10 (w10.alloc (.cells #[] 25)) := (Below.refl _ _).alloc (Nat.le_refl _) _
          have H11 : Hid (QW B w10.heap.size w (w10.alloc (.cells #[] 25)) (.slice (some ⟨w10.heap.size, 0, none⟩) 0 0) []) := ⟨H10.out.src.below (hb11.mono H10.out.src.lt), H10.out.kp.trans (Keep.of_below hb11), hB, hz10, hb11.size, own0Ou w10 (Nat.le_refl _), (fun g hg => by cases hg)⟩
          clear hb11
          go_wp2_with fail
          go_loopw [3, 6] (fun ov iv wr => ∃ (k : Nat) (acc : List OutR), iv = .int .i64 (k : Int) ∧ acc.length = k ∧ k ≤ 61 ∧ (∃ A C, ov = .slice A k C) ∧ QW B w10.heap.size w wr ov acc) (fun _ iv _ => 100 - (RowKit.intOf iv).toNat)
          case atStart => exact ⟨0, [], rfl, rfl, by omega, ⟨_, _, rfl⟩, H11.out⟩
          case round =>
            obtain ⟨k, acc, rfl, hak, hk2, ⟨A, Cc, rfl⟩, hq⟩ := hrel
            have HQ : Hid (QW B w10.heap.size w wr (.slice A k Cc) acc) := hq
            clear hq
            go_wp2_with fail
            refine (n_any B 3 _ (by omega) (by omega) HQ.out.src).mono ?_
            rintro e w12 ⟨y, rfl, y0, y1, s12, k12⟩
            have H12 : Hid (QW B w10.heap.size w w12 (.slice A k Cc) acc) := HQ.out.keep k12 s12
            clear s12 k12 HQ
            by_cases hge : (k : Int) < 59 + y
            · have hk201 : k < 61 := by omega
              have hrowK : (w12.alloc (.cells #[.string ⟨#[65]⟩, .int .i64 ((k : Int) + 1), .string ⟨#[120]⟩, .int .i64 0, .int .i64 (k : Int)] 25)).ownsRow w10.heap.size 25 5 (.slice A k Cc) acc.length (clOus acc) := H12.out.row.alloc _
              have hat : AtOu (w12.alloc (.cells #[.string ⟨#[65]⟩, .int .i64 ((k : Int) + 1), .string ⟨#[120]⟩, .int .i64 0, .int .i64 (k : Int)] 25)) w12.heap.size 0 ⟨⟨#[65]⟩, (k : Int) + 1, ⟨#[120]⟩, 0, (k : Int)⟩ := at_newOu w12 ⟨⟨#[65]⟩, (k : Int) + 1, ⟨#[120]⟩, 0, (k : Int)⟩
              have hs12 := H12.out.hnW
              have hacl : acc.length ≤ 61 := by omega
              have HAK : Hid (acc.length = k) := hak
              clear hak
              go_wp2_with (first | (at_builtin; refine wpList_appOu rfl _ _ rfl rfl rfl hrowK hat (by omega) (by simp; omega) ?_; rintro v4 w13 hown4 hgrow4 ⟨A4, C4, rfl⟩))
              have hfin := H12.out.grow hrowK hown4 hgrow4 (fun g hg => by
                rcases List.mem_append.1 hg with hg | hg
                · exact H12.out.sm g hg
                · rw [List.mem_singleton.1 hg]; exact ⟨show (⟨#[65]⟩ : ByteArray).size ≤ 12 by decide, show (⟨#[120]⟩ : ByteArray).size ≤ 12 by decide⟩)
              have HF : Hid _ := hfin
              clear hfin hown4 hgrow4 hrowK hat
              go_wp2_with fail
              go_roundw
              case rel =>
                have e1 := HAK.out
                have hX : (acc ++ [(⟨⟨#[65]⟩, (k : Int) + 1, ⟨#[120]⟩, 0, (k : Int)⟩ : OutR)]).length = k + 1 := by
                  rw [List.length_append, e1]
                  rfl
                have h13 := HF.out
                rw [hX] at h13
                refine ⟨k + 1, acc ++ [⟨⟨#[65]⟩, (k : Int) + 1, ⟨#[120]⟩, 0, (k : Int)⟩], by go_num, hX, by omega, ⟨A4, C4, ?_⟩, ?_⟩
                · first | rfl | rw [e1] | (rw [hX])
                · first | exact h13 | (rw [e1]; exact h13)
              case measure => simp [RowKit.intOf]; omega
            · have HF : Hid (QOu B w w12 (.slice A k Cc) acc ∧ acc.length ≤ 62) := ⟨by have h12 := H12.out; exact h12.fin (by omega), by omega⟩
              go_wp2
              go_ret
              exact ⟨_, acc, rfl, HF.out.1, HF.out.2⟩
end Go.Proofs.Ytiakkpglnijapaa
