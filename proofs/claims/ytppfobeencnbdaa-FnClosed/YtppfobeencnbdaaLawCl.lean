/- FnClosed returns true at every text and leaves it as it was: closing the lines of a drawn right list leaves just those of which something is open or in transit; no condition. -/
import Derived.Test.YtppfobeencnbdaaThDr
import Derived.Test.YtppfobeencnbdaaClI0
import Derived.Test.YtppfobeencnbdaaLnB
import Derived.Test.YtppfobeencnbdaaAppZOl
import Derived.Laws.StructEq
import Derived.BigQuiet
import Derived.Deep.QuietTactic
import Derived.BigRegion
import Derived.Deep.DeepMust
namespace Go.Proofs.Ytppfobeencnbdaa
open Go.ChangeShapes Go.WideShapes Go.ChangeAt Go.RowKit
set_option linter.unusedVariables false
namespace fnClosed
def IsRow (k : IntKind) (w : World) (a : Option Addr) (len cap : Nat) (zs : List Int) : Prop :=
  (a = none ∧ len = 0 ∧ cap = 0 ∧ zs = []) ∨
  ∃ x, a = some x ∧ len ≤ cap ∧ cap ≤ maxLen ∧ zs.length = cap ∧ (∀ i, i < zs.length → w.cell? (x.add i) = some (.int k (zs.getD i 0))) ∧ ∀ n ∈ zs, (Lit.int k n).wf = true
theorem IsRow.bytesAt {w : World} {a : Option Addr} {len cap : Nat} {zs : List Int} (h : IsRow .u8 w a len cap zs) : BytesAt w a len zs := by
  intro g
  rcases h with ⟨_, rfl, _, _⟩ | ⟨x, rfl, hl, _, hz, hc, _⟩
  · omega
  · obtain ⟨b, off, spot⟩ := x
    have h0 := hc 0 (by omega)
    have hspot : spot = none := by simpa [Addr.add] using World.cell?_spot h0
    subst hspot
    refine ⟨b, off, rfl, fun i hi => ?_⟩
    have hplain : (⟨b, off, none⟩ : Addr).add i = ⟨b, off + i, none⟩ := by unfold Addr.add; split <;> simp_all
    have := hc i (by omega)
    rw [hplain] at this
    simpa [List.getD] using this
theorem IsRow.len_le {w : World} {a : Option Addr} {len cap : Nat} {zs : List Int} (h : IsRow .u8 w a len cap zs) : len ≤ 9223372036854775807 := by
  rcases h with ⟨_, rfl, _, _⟩ | ⟨x, rfl, hl, hm, hz, hc, _⟩
  · omega
  · unfold maxLen at hm
    omega
theorem olnUnder : Try.prog.underlying 31 = some (.struct (Try.prog.fieldsOf 31)) := by kernel_rfl
theorem run_neq_oln (l : OLn) (w : World) : (binOp .neq 31 (.agg #[.string l.partner, .string l.ref, .int .i64 l.no, .string l.item, .int .i64 l.ordered, .int .i64 l.sent, .int .i64 l.got, .int .i64 l.cut]) (.agg #[.string l.partner, .string l.ref, .int .i64 l.no, .string l.item, .int .i64 l.ordered, .int .i64 l.sent, .int .i64 l.got, .int .i64 l.cut])).run Try.prog w = .ok (.bool false) w := by
  have hF : Try.prog.fieldsOf 31 = (match Try.prog.underlying 31 with | some (.struct fs) => fs | _ => #[]) := rfl
  rw [Try.underlying31] at hF
  rw [run_neq_struct, run_equalIn_struct _ _ _ _ _ olnUnder (by kernel_rfl), hF]
  simp [go_sem, Op.eqFields]
theorem over_iff {c : OLn} (h : LnOk c) : (stT c = 4 ∨ stT c = 5) ↔ c.ordered = c.cut + c.got := by
  have h1 := h.o1
  have h3 := h.s0
  have h4 := h.g0
  have h5 := h.c0
  have h6 := h.gs
  have h8 := h.co
  rw [stT_yes h, stR]
  by_cases hA : thA c
  · rw [if_pos hA]
    unfold thA at hA
    omega
  · rw [if_neg hA]
    unfold thA at hA
    by_cases hE : thE c
    · rw [if_pos hE]
      unfold thE at hE
      omega
    · rw [if_neg hE]
      unfold thE at hE
      by_cases hY : thY c
      · rw [if_pos hY]
        omega
      · rw [if_neg hY]
        split <;> omega
theorem clF_right {rs : List OLn} (h : RightL rs) : RightL (clF true rs) :=
  RightL.of_pair (by have := h.len; have := clF_len true rs; omega) (fun c hc => h.ok c (clF_mem hc)) (h.pair.sublist (List.filter_sublist))
theorem clF_idem (rs : List OLn) : clF true (clF true rs) = clF true rs := by
  show (clF true rs).filter _ = _
  rw [List.filter_eq_self]
  intro c hc
  exact (List.mem_filter.1 hc).2
theorem clF_at {rs : List OLn} {k : Nat} {c : OLn} (h : rs[k]? = some c) (hl : lefB true c = true) : (clF true rs)[(clF true (rs.take k)).length]? = some c := by
  have hk := (List.getElem?_eq_some_iff.1 h)
  obtain ⟨hlt, e⟩ := hk
  have e2 : clF true rs = clF true (rs.take k) ++ c :: clF true (rs.drop (k + 1)) := by
    conv => lhs; rw [← List.take_append_drop k rs, List.drop_eq_getElem_cons hlt, e]
    show List.filter _ _ = _
    rw [List.filter_append, List.filter_cons_of_pos hl]
    rfl
  rw [e2, List.getElem?_append_right (Nat.le_refl _), Nat.sub_self]
  rfl
theorem closT_right {rs : List OLn} (h : RightL rs) : closT rs = clF true rs := by
  have := h.len
  rw [closT, if_pos (by omega), lnsB_yes h]
theorem smZ {g : OLn} (h : SmL g) : g.partner.size ≤ 1048576 ∧ g.ref.size ≤ 1048576 ∧ g.item.size ≤ 1048576 := by
  obtain ⟨h1, h2, h3⟩ := h
  omega
set_option maxHeartbeats 16000000 in
theorem walk (a0 : Option Addr) (len0 cap0 : Nat) (z0 : List Int) (w : World) (w0 : IsRow .u8 w a0 len0 cap0 z0) :
    Calls Try.prog 4 #[.slice a0 len0 cap0] w fun e w' => e = .returned (.bool true) ∧ Below w.heap.size w w' := by
  have hl0 := w0.len_le
  have HR : Hid (BytesAt w a0 len0 z0) := w0.bytesAt
  clear w0
  by_cases hg : 1048576 < len0
  · have hg' : (1048576 : Int) < (len0 : Int) := by omega
    clear HR
    go_enter Try.func4, Try.ntmps4
    go_wp2
    go_ret
    exact ⟨rfl, Below.refl _ _⟩
  have hg' : (len0 : Int) ≤ 1048576 := by omega
  go_enter Try.func4, Try.ntmps4
  go_wp2_with fail
  refine (drawCloseLines_any a0 len0 cap0 z0 _ (by omega) HR.out).mono ?_
  rintro e w1 ⟨ad, C, rs, rfl, hr, hsm, hlen, hb1⟩
  have H1 : Hid (Below w.heap.size w w1 ∧ RowOl w1 (.slice (some ad) rs.length C) rs ∧ ∀ g ∈ rs, SmL g) := ⟨hb1, hr, hsm⟩
  clear hr hsm hb1 HR
  go_wp2_with fail
  refine (linesRight_spec _ rs _ H1.out.2.1).mono ?_
  rintro e w2 ⟨rfl, hb2⟩
  have H2 : Hid (Below w.heap.size w w2 ∧ RowOl w2 (.slice (some ad) rs.length C) rs) := ⟨H1.out.1.trans (hb2.mono H1.out.1.size), H1.out.2.1.below hb2⟩
  clear hb2
  cases hx : lnsB rs with
  | false =>
    clear hx
    go_wp2
    go_ret
    exact ⟨rfl, H2.out.1⟩
  | true =>
    have hok : RightL rs := lnsB_iff.1 hx
    have HK : Hid (RightL rs) := hok
    obtain ⟨ls, hls⟩ : ∃ ls, ls = clF true rs := ⟨_, rfl⟩
    have HL : Hid (ls = clF true rs ∧ RightL ls ∧ closT ls = ls ∧ (∀ g ∈ ls, SmL g) ∧ ls.length ≤ rs.length) := by
      refine ⟨hls, by rw [hls]; exact clF_right hok, ?_, fun g hg => H1.out.2.2 g (clF_mem (by rw [← hls]; exact hg)), by rw [hls]; exact clF_len _ _⟩
      rw [closT_right (by rw [hls]; exact clF_right hok), hls, clF_idem]
    have hll : ls.length ≤ 250 := by have := HL.out.2.2.2.2; omega
    have QC : Hid (∀ v W, RowOl W v rs → Calls Try.prog 11 #[v] W fun e w' => ∃ u b, e = .returned u ∧ W.heap.size ≤ b ∧ LOl b w' u ls ∧ Below W.heap.size W w') := fun v W hv => by
      have := closeLines_impl v rs W hv (fun c hc => smZ (H1.out.2.2 c hc))
      rw [closT_right hok, ← hls] at this
      exact this
    have QD : Hid (∀ v W, RowOl W v ls → Calls Try.prog 11 #[v] W fun e w' => ∃ u b, e = .returned u ∧ W.heap.size ≤ b ∧ LOl b w' u ls ∧ Below W.heap.size W w') := fun v W hv => by
      have := closeLines_impl v ls W hv (fun c hc => smZ (HL.out.2.2.2.1 c hc))
      rw [HL.out.2.2.1] at this
      exact this
    clear hx hok hls H1
    have hown : (w2.alloc (.cells #[] 31)).ownsRow w2.heap.size 31 8 (.slice (some ⟨w2.heap.size, 0, none⟩) 0 0) 0 [] := own0Ol w2 (Nat.le_refl _)
    have ha2 : Below w2.heap.size w2 (w2.alloc (.cells #[] 31)) := (Below.refl _ _).alloc (Nat.le_refl _) _
    have hrow := H2.out.2.below ha2
    have HA : Hid (Below w2.heap.size w2 (w2.alloc (.cells #[] 31))) := ha2
    clear ha2
    go_wp2_with (at_builtin; refine wpList_copyOl (by rfl) _ _ rfl rfl rfl hown hrow (by omega) (by simp) ?_; intro A3 C3 w3 hr3 hA3 hb3)
    have H3 : Hid (Below w.heap.size w w3 ∧ RowOl w3 (.slice (some ad) rs.length C) rs ∧ RowOl w3 (.slice A3 rs.length C3) rs) := ⟨H2.out.1.trans ((HA.out.trans hb3).mono H2.out.1.size), H2.out.2.below (HA.out.trans hb3), hr3⟩
    clear hb3 hA3 hr3 hown hrow HA H2
    refine (QC.out _ _ H3.out.2.2).mono ?_
    rintro e w4 ⟨u, bu, rfl, hub, hL, hb4⟩
    obtain ⟨Au, Cu, rfl⟩ := hL.val
    have H4 : Hid (Below w.heap.size w w4 ∧ RowOl w4 (.slice (some ad) rs.length C) rs ∧ RowOl w4 (.slice Au ls.length Cu) ls) := ⟨H3.out.1.trans (hb4.mono H3.out.1.size), H3.out.2.1.below hb4, hL.row⟩
    clear hub hL hb4 H3 QC
    have hown : (w4.alloc (.cells #[] 31)).ownsRow w4.heap.size 31 8 (.slice (some ⟨w4.heap.size, 0, none⟩) 0 0) 0 [] := own0Ol w4 (Nat.le_refl _)
    have ha4 : Below w4.heap.size w4 (w4.alloc (.cells #[] 31)) := (Below.refl _ _).alloc (Nat.le_refl _) _
    have hrow := H4.out.2.2.below ha4
    have HA : Hid (Below w4.heap.size w4 (w4.alloc (.cells #[] 31))) := ha4
    clear ha4
    go_wp2_with (at_builtin; refine wpList_copyOl (by rfl) _ _ rfl rfl rfl hown hrow (by omega) (by simp) ?_; intro A5 C5 w5 hr5 hA5 hb5)
    have H5 : Hid (Below w.heap.size w w5 ∧ RowOl w5 (.slice (some ad) rs.length C) rs ∧ RowOl w5 (.slice Au ls.length Cu) ls ∧ RowOl w5 (.slice A5 ls.length C5) ls) := ⟨H4.out.1.trans ((HA.out.trans hb5).mono H4.out.1.size), H4.out.2.1.below (HA.out.trans hb5), H4.out.2.2.below (HA.out.trans hb5), hr5⟩
    clear hb5 hA5 hr5 hown hrow HA H4
    refine (linesRight_impl _ ls _ H5.out.2.2.2).mono ?_
    rintro e w6 ⟨rfl, hb6⟩
    rw [lnsB_yes HL.out.2.1]
    have H6 : Hid (Below w.heap.size w w6 ∧ RowOl w6 (.slice (some ad) rs.length C) rs ∧ RowOl w6 (.slice Au ls.length Cu) ls) := ⟨H5.out.1.trans (hb6.mono H5.out.1.size), H5.out.2.1.below hb6, H5.out.2.2.1.below hb6⟩
    clear hb6 H5
    go_wp2_with fail
    go_loopw [5, 6] (fun n i wr => ∃ k : Nat, i = .int .i64 (k : Int) ∧ k ≤ rs.length ∧ n = .int .i64 (((clF true (rs.take k)).length : Nat) : Int) ∧ Hid (Below w6.heap.size w6 wr)) (fun _ i _ => rs.length - (intOf i).toNat)
    case atStart => exact ⟨0, rfl, by omega, rfl, Below.refl _ _⟩
    case round =>
      obtain ⟨k, rfl, hk, rfl, HW⟩ := hrel
      by_cases hlt : k < rs.length
      · have hlt' : (k : Int) < (rs.length : Int) := by omega
        obtain ⟨b, o, cap', c, e, hs, ⟨q0, q1, q2, q3, q4, q5, q6, q7⟩, _⟩ := (H6.out.2.1.below HW.out).at hlt
        simp only [Value.slice.injEq, Option.some.injEq, true_and] at e
        obtain ⟨rfl, rfl⟩ := e
        have hok := HK.out.ok c (List.mem_of_getElem? hs)
        have hov := over_iff hok
        have hwr : IntKind.i64.wrap (c.cut + c.got) = c.cut + c.got := by
          have := hok.o2
          have := hok.g0
          have := hok.c0
          have := hok.gs
          have := hok.so
          have := hok.co
          rw [IntKind.wrap_i64]; omega
        obtain ⟨n, hn⟩ : ∃ n, n = (clF true (rs.take k)).length := ⟨_, rfl⟩
        have hnl : n ≤ 250 := by rw [hn]; have := clF_len true (rs.take k); rw [List.length_take] at this; omega
        have HS : Hid (clF true (rs.take (k + 1)) = if lefB true c = true then clF true (rs.take k) ++ [c] else clF true (rs.take k)) := clF_snoc hs
        have HAt : Hid (lefB true c = true → ls[n]? = some c) := fun h => by rw [HL.out.1, hn]; exact clF_at hs h
        have HN : Hid (n = (clF true (rs.take k)).length) := hn
        rw [← hn]
        clear hn hs hok
        obtain ⟨W7, hW7⟩ : ∃ W7, wr.alloc (.cells #[.string c.partner, .string c.ref, .int .i64 c.no, .string c.item, .int .i64 c.ordered, .int .i64 c.sent, .int .i64 c.got, .int .i64 c.cut] 31) = W7 := ⟨_, rfl⟩
        have hb7 : Below wr.heap.size wr W7 := by rw [← hW7]; exact (Below.refl _ _).alloc (Nat.le_refl _) _
        have i7 : W7.heap[wr.heap.size]? = some (.cells #[.string c.partner, .string c.ref, .int .i64 c.no, .string c.item, .int .i64 c.ordered, .int .i64 c.sent, .int .i64 c.got, .int .i64 c.cut] 31) := by rw [← hW7]; exact World.alloc_heap_new _ _
        obtain ⟨B, hB⟩ : ∃ B, B = wr.heap.size := ⟨_, rfl⟩
        rw [← hB] at i7
        have H7 : Hid (Below w6.heap.size w6 W7 ∧ W7.heap[B]? = some (.cells #[.string c.partner, .string c.ref, .int .i64 c.no, .string c.item, .int .i64 c.ordered, .int .i64 c.sent, .int .i64 c.got, .int .i64 c.cut] 31)) := ⟨HW.out.trans (hb7.mono HW.out.size), i7⟩
        have HW7 : Hid (wr.alloc (.cells #[.string c.partner, .string c.ref, .int .i64 c.no, .string c.item, .int .i64 c.ordered, .int .i64 c.sent, .int .i64 c.got, .int .i64 c.cut] 31) = W7 ∧ B = wr.heap.size) := ⟨hW7, hB⟩
        clear hW7 hb7 i7 hB
        go_upto_region 14 with fail
        try rw [HW7.out.1]
        try rw [← HW7.out.2]
        clear HW7 q0 q1 q2 q3 q4 q5 q6 q7
        obtain ⟨c0, c1, c2, c3, c4, c5, c6, c7⟩ := box8 H7.out.2
        by_cases heq : c.ordered = c.cut + c.got
        · have gE : (c.ordered == c.cut + c.got) = true := by simp [heq]
          have hlf : lefB true c = false := by
            have := hov.2 heq
            simp [lefB, clZ, this]
          have HM : Hid (clF true (rs.take (k + 1)) = clF true (rs.take k)) := by show _ = _; rw [HS.out, hlf]; rfl
          clear hov hlf heq
          go_wp2
          go_roundw
          case rel => exact ⟨k + 1, by go_num, by omega, by rw [HM.out, ← HN.out], H7.out.1⟩
          case measure => simp [intOf]; omega
        · have gE : (c.ordered == c.cut + c.got) = false := by simp [heq]
          have hlf : lefB true c = true := by
            have : ¬ (stT c = 4 ∨ stT c = 5) := fun h => heq (hov.1 h)
            simp [lefB, clZ, this]
          have HM : Hid (clF true (rs.take (k + 1)) = clF true (rs.take k) ++ [c]) := by show _ = _; rw [HS.out, hlf]; rfl
          have hnn := HAt.out hlf
          have hnlt : n < ls.length := (List.getElem?_eq_some_iff.1 hnn).1
          obtain ⟨b', o', cap', c', e, hs', ⟨y0, y1, y2, y3, y4, y5, y6, y7⟩, _⟩ := (H6.out.2.2.below H7.out.1).at hnlt
          rw [hnn] at hs'
          cases hs'
          simp only [Value.slice.injEq, true_and] at e
          obtain ⟨rfl, rfl⟩ := e
          have hneq := run_neq_oln c
          have hnlt' : (n : Int) < (ls.length : Int) := by omega
          have hd1 : decide ((ls.length : Int) ≤ (n : Int)) = false := decide_eq_false (by omega)
          have hw1 : IntKind.i64.wrap ((n : Int) + 1) = (n : Int) + 1 := by rw [IntKind.wrap_i64]; omega
          have HX : Hid ((((clF true (rs.take (k + 1))).length : Nat) : Int) = (n : Int) + 1) := by show _ = _; rw [HM.out, HN.out]; simp
          clear hov hlf heq hnn
          go_upto_region 15 with fail
          go_quiet (fail)
          have H8 : Hid (∀ nq, Below w6.heap.size w6 (W7.drewN nq)) := fun nq => H7.out.1.trans ⟨rfl, rfl, rfl, Nat.le_refl _, fun _ _ => rfl⟩
          clear hneq c0 c1 c2 c3 c4 c5 c6 c7 y0 y1 y2 y3 y4 y5 y6 y7
          go_wp2
          go_roundw
          case rel => exact ⟨k + 1, by go_num, by omega, by rw [HX.out], H8.out _⟩
          case measure => simp [intOf]; omega
      · obtain rfl : k = rs.length := by omega
        rw [List.take_length, ← HL.out.1]
        have H9 : Hid (Below w.heap.size w wr ∧ RowOl wr (.slice Au ls.length Cu) ls) := ⟨H6.out.1.trans (HW.out.mono H6.out.1.size), H6.out.2.2.below HW.out⟩
        clear H6 HW
        have hown : (wr.alloc (.cells #[] 31)).ownsRow wr.heap.size 31 8 (.slice (some ⟨wr.heap.size, 0, none⟩) 0 0) 0 [] := own0Ol wr (Nat.le_refl _)
        have ha9 : Below wr.heap.size wr (wr.alloc (.cells #[] 31)) := (Below.refl _ _).alloc (Nat.le_refl _) _
        have hrow := H9.out.2.below ha9
        have HA : Hid (Below wr.heap.size wr (wr.alloc (.cells #[] 31))) := ha9
        clear ha9
        go_wp2_with (first | (at_builtin; refine wpList_copyOl (by rfl) _ _ rfl rfl rfl hown hrow (by omega) (by simp) ?_; intro A9 C9 w9 hr9 hA9 hb9) | (go_at_call 11; refine (QD.out _ _ hr9).mono ?_; rintro e w10 ⟨u10, b10, rfl, _, hL10, hb10⟩; obtain ⟨A10, C10, rfl⟩ := hL10.val; have H10 : Hid (Below w.heap.size w w10) := H9.out.1.trans (((HA.out.trans hb9).trans (hb10.mono (HA.out.trans hb9).size)).mono H9.out.1.size); clear hL10 hb10))
        go_ret
        exact ⟨by first | rfl | simp, H10.out⟩
theorem own : ownKnob Try.prog.godebug = none := by kernel_rfl
theorem laidOut : laidOutB Try.prog = true := by kernel_rfl
set_option maxRecDepth 100000 in
theorem lifted (os : Os) (started : os.Started) (H : Type) (enc : TypeId × Value → H) :
    ReturnsInHanded {} Try.checked os 4 .any (Rows.fnClosedSpec.pre6 enc Try.prog Try.f4 Rows.fnClosedRow.domain false) (Rows.fnClosedSpec.post enc Try.prog Try.f4 false true false false) := by
  refine returnsInHanded_of_change (C := Try.checked) own started (by kernel_rfl) Try.func4
    (ChangeSpec.witness6 (enc := enc) (C := Try.checked) false ⟨#[], #[.slice none 0 0], []⟩ 8 (by kernel_rfl) (by kernel_rfl) (by kernel_rfl) (by kernel_rfl)) ?_
  intro W base args ds gs before hval0 hW hcnd _
  have hval : ∀ (j : Nat) t v, Try.f4.params[j]? = some t → args[j]? = some v → Value.okWide Try.prog W .any base t v := hval0
  have hW' := hW
  obtain ⟨p, q, hA0, hV, rfl, hfz, hnd⟩ := hW
  have hA : DataW.TrodAll enc Try.prog W 0 (fun _ => true) true Try.f4.params.toList args.toList ds p := hA0
  rw [Try.params4] at hA hval
  obtain ⟨v0, vs0, d0, ds0, p0, q0, hargs, rfl, rfl, h0, r0⟩ := trodAll_cons hA
  obtain ⟨rfl, rfl, rfl⟩ := trodAll_nil r0
  obtain rfl : args = #[v0] := by cases args; simp_all
  obtain ⟨rfl, rfl⟩ := trodVars_none hV
  obtain ⟨a0, len0, cap0, rfl⟩ := okWide_slice Try.underlying22 (hval 0 22 v0 rfl rfl)
  have k0 := h0
  have lt0 : ∀ x ∈ p0, x.block < W.heap.size := by obtain ⟨m, hm⟩ := k0; exact DataW.trod_lt m _ _ _ hm
  obtain ⟨z0, w0⟩ : ∃ zs, IsRow .u8 W a0 len0 cap0 zs := by
    obtain ⟨fuel, hf⟩ := h0
    rcases open_ints Try.underlying22 Try.underlying5 (by kernel_rfl) hf with ⟨hcs, _⟩ | ⟨x, l, c, zs, hcs, _, hl, hm, hz, _, hcell, hwz⟩
    · simp [Value.cells] at hcs
      obtain ⟨rfl, rfl, rfl⟩ := hcs
      exact ⟨[], .inl ⟨rfl, rfl, rfl, rfl⟩⟩
    · simp [Value.cells] at hcs
      obtain ⟨rfl, rfl, rfl⟩ := hcs
      exact ⟨zs, .inr ⟨_, rfl, hl, hm, by simpa using hz, hcell, hwz⟩⟩
  clear hA0 hval0
  refine (walk a0 len0 cap0 z0 W w0).mono fun e W' ⟨he, bel⟩ => ?_
  subst he
  exact ⟨_, rfl, _, _, _, [], _, [], hW', trodAll_mk1 (shut_bool Try.underlying4 _), (trodAll_cons_mk (Below.trod laidOut (by kernel_rfl) (of_decide_eq_true (by kernel_rfl)) k0 bel lt0) trodAll_mk0), rfl, bel.frame _, fun h => by cases h⟩
theorem over : Rows.fnClosedRow.holds Try.pinned (OpenSpec.ofChange Rows.fnClosedSpec) :=
  OpenClaim.holds_of_wide 4 Try.f4 rfl rfl rfl rfl rfl rfl rfl ⟨rfl, rfl, rfl, rfl, rfl⟩ rfl rfl rfl rfl rfl (by kernel_rfl) Try.func4 (by kernel_rfl)
    (of_decide_eq_true (by kernel_rfl)) (by unfold Func.isWrapper; first | (rw [if_pos (by decide +kernel)]; kernel_rfl) | (rw [if_neg (by decide +kernel)]; exact ⟨rfl, rfl⟩))
    (fun os started H enc _ => lifted os started H enc)
end fnClosed
theorem fnClosed_holds : Rows.FnClosedSaid := fnClosed.over
#print axioms fnClosed_holds
end Go.Proofs.Ytppfobeencnbdaa
