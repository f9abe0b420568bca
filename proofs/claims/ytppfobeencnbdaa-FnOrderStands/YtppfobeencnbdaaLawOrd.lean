/- FnOrderStands returns true at every text and leaves it as it was: where an order of a drawn right list stands tells each of its lines, if all stand there, and it is done or gone just if each of its lines is; no condition. -/
import Derived.Test.YtppfobeencnbdaaThDo
import Derived.Test.YtppfobeencnbdaaThM
import Derived.Test.YtppfobeencnbdaaLnB
import Derived.Test.YtppfobeencnbdaaAppZOc
import Derived.Deep.DeepMust
namespace Go.Proofs.Ytppfobeencnbdaa
open Go.ChangeShapes Go.WideShapes Go.ChangeAt Go.RowKit
set_option linter.unusedVariables false
namespace fnOrderStands
def IsRow (k : IntKind) (w : World) (a : Option Addr) (len cap : Nat) (zs : List Int) : Prop :=
  (a = none ∧ len = 0 ∧ cap = 0 ∧ zs = []) ∨
  ∃ x, a = some x ∧ len ≤ cap ∧ cap ≤ maxLen ∧ zs.length = cap ∧ (∀ i, i < zs.length → w.cell? (x.add i) = some (.int k (zs.getD i 0))) ∧ ∀ n ∈ zs, (Lit.int k n).wf = true
theorem IsRow.bytesAt {w : World} {a : Option Addr} {len cap : Nat} {zs : List Int} (h : IsRow .u8 w a len cap zs) : BytesAt w a len zs := by
  intro g
  rcases h with ⟨_, rfl, _, _⟩ | ⟨x, rfl, hl, _, hz, hc, _⟩
  · omega
  · obtain ⟨b, off, spot⟩ := x
    have h0 := hc 0 (by omega)
    have hspot : spot = none := by simpa [Addr.add] using World.cell?_spot h0
    subst hspot
    refine ⟨b, off, rfl, fun i hi => ?_⟩
    have hplain : (⟨b, off, none⟩ : Addr).add i = ⟨b, off + i, none⟩ := by unfold Addr.add; split <;> simp_all
    have := hc i (by omega)
    rw [hplain] at this
    simpa [List.getD] using this
theorem IsRow.len_le {w : World} {a : Option Addr} {len cap : Nat} {zs : List Int} (h : IsRow .u8 w a len cap zs) : len ≤ 9223372036854775807 := by
  rcases h with ⟨_, rfl, _, _⟩ | ⟨x, rfl, hl, hm, hz, hc, _⟩
  · omega
  · unfold maxLen at hm
    omega
theorem cp_iff (A B : OLn → Bool) : ∀ l : List OLn, l.countP (fun c => A c && B c) ≤ l.countP A ∧ (l.countP (fun c => A c && B c) = l.countP A ↔ (l.filter A).all B = true)
  | [] => by simp
  | c :: l => by
    obtain ⟨h1, h2⟩ := cp_iff A B l
    cases ha : A c with
    | false => simpa [List.countP_cons, ha] using ⟨h1, by simpa using h2⟩
    | true =>
      cases hb : B c with
      | false =>
        simp only [List.countP_cons, ha, hb, Bool.and_false, Bool.false_eq_true, if_false, if_true, List.filter_cons_of_pos, List.all_cons, Bool.false_and, iff_false]
        omega
      | true =>
        simp only [List.countP_cons, ha, hb, Bool.and_true, if_true, List.filter_cons_of_pos, List.all_cons, Bool.true_and, ← h2]
        omega
theorem cp_snoc (A : OLn → Bool) {rs : List OLn} {k : Nat} {c : OLn} (h : rs[k]? = some c) : (((rs.take (k + 1)).countP A : Nat) : Int) = ((rs.take k).countP A : Nat) + if A c = true then 1 else 0 := by
  rw [List.take_add_one, h]
  simp only [Option.toList, List.countP_append, List.countP_singleton]
  split <;> simp
theorem cl_beq (z : Int) : clZ z = (z == 4 || z == 5) := by
  rw [Bool.eq_iff_iff, clZ_iff]
  simp
theorem ord_end (p r : ByteArray) (rs : List OLn) (t : Int) (hok : ∀ c ∈ rs, LnOk c) (ht : t = if rs.filter (ofR p r) = [] then 0 else allT (rs.filter (ofR p r))) :
    (rs.countP (ofR p r) = 0 → t = 0) ∧ (rs.countP (ofR p r) ≠ 0 → 1 ≤ t ∧ t ≤ 5 ∧ ((t = 4 ∨ t = 5) ↔ rs.countP (fun c => ofR p r c && (stT c == 4 || stT c == 5)) = rs.countP (ofR p r)) ∧ (rs.countP (fun c => ofR p r c && (stT c == t)) = rs.countP (ofR p r) ∨ t = 2 ∨ t = 4)) := by
  have hlen : rs.countP (ofR p r) = (rs.filter (ofR p r)).length := List.countP_eq_length_filter
  refine ⟨fun h => ?_, fun h => ?_⟩
  · rw [ht, if_pos (List.length_eq_zero_iff.1 (by omega))]
  · rw [if_neg (fun e => h (by rw [hlen, e]; rfl))] at ht
    rw [(cp_iff (ofR p r) (fun c => stT c == 4 || stT c == 5) rs).2, (cp_iff (ofR p r) (fun c => stT c == t) rs).2]
    have hls : ∀ c ∈ rs.filter (ofR p r), 1 ≤ stT c ∧ stT c ≤ 5 := fun c hc => stT_pos (hok c (List.mem_filter.1 hc).1)
    have hne : rs.filter (ofR p r) ≠ [] := fun e => h (by rw [hlen, e]; rfl)
    obtain ⟨ls, hls'⟩ : ∃ ls, ls = rs.filter (ofR p r) := ⟨_, rfl⟩
    rw [← hls'] at ht hls hne ⊢
    clear hls' hlen h
    have hcl : clsT ls = ls.all fun c => stT c == 4 || stT c == 5 := by
      unfold clsT
      congr 1
      funext c
      exact cl_beq _
    have hmem : ∃ d ∈ ls, fstT ls = stT d := by
      cases ls with
      | nil => exact absurd rfl hne
      | cons d l => exact ⟨d, List.mem_cons_self, rfl⟩
    obtain ⟨d, hd, hfd⟩ := hmem
    have hdr := hls d hd
    unfold allT at ht
    by_cases ha : alkT (fstT ls) ls = true
    · rw [if_pos ha] at ht
      have hall : ∀ c ∈ ls, stT c = t := fun c hc => by
        have := List.all_eq_true.1 ha c hc
        rw [ht]
        exact of_decide_eq_true this
      refine ⟨by rw [ht, hfd]; exact hdr.1, by rw [ht, hfd]; exact hdr.2, ?_, .inl (List.all_eq_true.2 fun c hc => by simp [hall c hc])⟩
      constructor
      · intro h4
        refine List.all_eq_true.2 fun c hc => ?_
        rw [hall c hc]
        rcases h4 with rfl | rfl <;> rfl
      · intro h4
        have := List.all_eq_true.1 h4 d hd
        rw [hall d hd] at this
        simpa using this
    · rw [if_neg ha] at ht
      by_cases hc : clsT ls = true
      · rw [if_pos hc] at ht
        subst ht
        exact ⟨by decide, by decide, by rw [← hcl]; simp [hc], .inr (.inr rfl)⟩
      · rw [if_neg hc] at ht
        subst ht
        exact ⟨by decide, by decide, by rw [← hcl]; simp [hc], .inr (.inl rfl)⟩
set_option maxHeartbeats 16000000 in
theorem walk (a0 : Option Addr) (len0 cap0 : Nat) (z0 : List Int) (w : World) (w0 : IsRow .u8 w a0 len0 cap0 z0) :
    Calls Try.prog 5 #[.slice a0 len0 cap0] w fun e w' => e = .returned (.bool true) ∧ Below w.heap.size w w' := by
  have hl0 := w0.len_le
  have HR : Hid (BytesAt w a0 len0 z0) := w0.bytesAt
  clear w0
  by_cases hg : 1048576 < len0
  · have hg' : (1048576 : Int) < (len0 : Int) := by omega
    clear HR
    go_enter Try.func5, Try.ntmps5
    go_wp2
    go_ret
    exact ⟨rfl, Below.refl _ _⟩
  have hg' : (len0 : Int) ≤ 1048576 := by omega
  go_enter Try.func5, Try.ntmps5
  go_wp2_with fail
  refine (drawThreeOrder_any a0 len0 cap0 z0 _ (by omega) HR.out).mono ?_
  rintro e w1 ⟨ad, C, rs, p, r, rfl, hr, hsm, hlen, hpl, hrl, hb1⟩
  have H1 : Hid (Below w.heap.size w w1 ∧ RowOl w1 (.slice (some ad) rs.length C) rs) := ⟨hb1, hr⟩
  clear hr hsm hb1 HR
  go_wp2_with fail
  refine (linesRight_spec _ rs _ H1.out.2).mono ?_
  rintro e w2 ⟨rfl, hb2⟩
  have H2 : Hid (Below w.heap.size w w2 ∧ RowOl w2 (.slice (some ad) rs.length C) rs) := ⟨H1.out.1.trans (hb2.mono H1.out.1.size), H1.out.2.below hb2⟩
  clear hb2 H1
  have ha2 : Below w2.heap.size w2 (w2.alloc (.cells #[] 31)) := (Below.refl _ _).alloc (Nat.le_refl _) _
  have hown : (w2.alloc (.cells #[] 31)).ownsRow w2.heap.size 31 8 (.slice (some ⟨w2.heap.size, 0, none⟩) 0 0) 0 [] := own0Ol w2 (Nat.le_refl _)
  have hrow := H2.out.2.below ha2
  have HA : Hid (Below w2.heap.size w2 (w2.alloc (.cells #[] 31))) := ha2
  clear ha2
  obtain ⟨t, ht⟩ : ∃ t, t = ordT rs p r := ⟨_, rfl⟩
  have QI : Hid (∀ A C W, RowOl W (.slice A rs.length C) rs → rs.length ≤ C → Calls Try.prog 14 #[.slice A rs.length C, .string p, .string r] W fun e w' => e = .returned (.int .i64 t) ∧ Below W.heap.size W w') := fun A C W hv hC => by rw [ht]; exact threeOrder_impl A C rs p r W hv hC (by omega) (by omega)
  cases hx : lnsB rs with
  | false =>
    obtain rfl : t = 0 := by rw [ht, ordT, if_neg (by simp [hx])]
    clear hx ht
    go_wp2_with (first | (at_builtin; refine wpList_copyOc (by rfl) _ _ rfl rfl rfl hown hrow (by omega) (by simp) ?_; intro A3 C3 w3 hr3 hA3 hb3 hC3; have H3 : Hid (Below w.heap.size w w3) := H2.out.1.trans ((HA.out.trans hb3).mono H2.out.1.size); clear hb3 hA3 hown hrow) | (go_at_call 14; refine (QI.out _ _ _ hr3 hC3).mono ?_; rintro e w4 ⟨rfl, hb4⟩; have H4 : Hid (Below w.heap.size w w4) := H3.out.trans (hb4.mono H3.out.size); clear hb4 hr3))
    go_ret
    exact ⟨by first | rfl | simp, H4.out⟩
  | true =>
    have hok : RightL rs := lnsB_iff.1 hx
    have HE : Hid ((rs.countP (ofR p r) = 0 → t = 0) ∧ (rs.countP (ofR p r) ≠ 0 → 1 ≤ t ∧ t ≤ 5 ∧ ((t = 4 ∨ t = 5) ↔ rs.countP (fun c => ofR p r c && (stT c == 4 || stT c == 5)) = rs.countP (ofR p r)) ∧ (rs.countP (fun c => ofR p r c && (stT c == t)) = rs.countP (ofR p r) ∨ t = 2 ∨ t = 4))) := ord_end p r rs t hok.ok (by rw [ht, ordT, if_pos ⟨by omega, by omega, hx⟩])
    clear hx ht
    go_upto_region 7 with (first | (at_builtin; refine wpList_copyOc (by rfl) _ _ rfl rfl rfl hown hrow (by omega) (by simp) ?_; intro A3 C3 w3 hr3 hA3 hb3 hC3; have H3 : Hid (Below w.heap.size w w3) := H2.out.1.trans ((HA.out.trans hb3).mono H2.out.1.size); have HL3 : Hid (RowOl w3 (.slice (some ad) rs.length C) rs) := H2.out.2.below (HA.out.trans hb3); clear hb3 hA3 hown hrow) | (go_at_call 14; refine (QI.out _ _ _ hr3 hC3).mono ?_; rintro e w4 ⟨rfl, hb4⟩; have H4 : Hid (Below w.heap.size w w4 ∧ RowOl w4 (.slice (some ad) rs.length C) rs) := ⟨H3.out.trans (hb4.mono H3.out.size), HL3.out.below hb4⟩; clear hb4 hr3))
    clear H3 HL3 QI HA H2 hC3
    go_wp2_with fail
    go_loopw [7, 8, 9, 10] (fun n m o i wr => ∃ k : Nat, i = .int .i64 (k : Int) ∧ k ≤ rs.length ∧ n = .int .i64 (((rs.take k).countP (ofR p r) : Nat) : Int) ∧ m = .int .i64 (((rs.take k).countP (fun c => ofR p r c && (stT c == t)) : Nat) : Int) ∧ o = .int .i64 (((rs.take k).countP (fun c => ofR p r c && (stT c == 4 || stT c == 5)) : Nat) : Int) ∧ Hid (Below w4.heap.size w4 wr)) (fun _ _ _ i _ => rs.length - (intOf i).toNat)
    case atStart => exact ⟨0, rfl, by omega, rfl, rfl, rfl, Below.refl _ _⟩
    case round =>
      obtain ⟨k, rfl, hk, rfl, rfl, rfl, HW⟩ := hrel
      by_cases hlt : k < rs.length
      · have hlt' : (k : Int) < (rs.length : Int) := by omega
        obtain ⟨b, o, cap', c, e, hs, ⟨q0, q1, q2, q3, q4, q5, q6, q7⟩, _⟩ := (H4.out.2.below HW.out).at hlt
        simp only [Value.slice.injEq, Option.some.injEq, true_and] at e
        obtain ⟨rfl, rfl⟩ := e
        have n1 := cp_snoc (ofR p r) hs
        have n2 := cp_snoc (fun c => ofR p r c && (stT c == t)) hs
        have n3 := cp_snoc (fun c => ofR p r c && (stT c == 4 || stT c == 5)) hs
        have hkl : (rs.take k).length ≤ 250 := by rw [List.length_take]; omega
        have b1 := List.countP_le_length (p := (ofR p r)) (l := rs.take k)
        have b2 := List.countP_le_length (p := (fun c => ofR p r c && (stT c == t))) (l := rs.take k)
        have b3 := List.countP_le_length (p := (fun c => ofR p r c && (stT c == 4 || stT c == 5))) (l := rs.take k)
        obtain ⟨xn, hxn⟩ : ∃ x : Int, x = (((rs.take k).countP (ofR p r) : Nat) : Int) := ⟨_, rfl⟩
        obtain ⟨xm, hxm⟩ : ∃ x : Int, x = (((rs.take k).countP (fun c => ofR p r c && (stT c == t)) : Nat) : Int) := ⟨_, rfl⟩
        obtain ⟨xo, hxo⟩ : ∃ x : Int, x = (((rs.take k).countP (fun c => ofR p r c && (stT c == 4 || stT c == 5)) : Nat) : Int) := ⟨_, rfl⟩
        have g1 : 0 ≤ xn ∧ xn ≤ 250 := by omega
        have g2 : 0 ≤ xm ∧ xm ≤ 250 := by omega
        have g3 : 0 ≤ xo ∧ xo ≤ 250 := by omega
        rw [← hxn] at n1 ⊢
        rw [← hxm] at n2 ⊢
        rw [← hxo] at n3 ⊢
        have hw1 : IntKind.i64.wrap (xn + 1) = xn + 1 := by rw [IntKind.wrap_i64]; omega
        have hw2 : IntKind.i64.wrap (xm + 1) = xm + 1 := by rw [IntKind.wrap_i64]; omega
        have hw3 : IntKind.i64.wrap (xo + 1) = xo + 1 := by rw [IntKind.wrap_i64]; omega
        obtain ⟨z, hz⟩ : ∃ z, z = stT c := ⟨_, rfl⟩
        rw [← hz] at n2 n3
        have QT := threeOf_impl c
        rw [← hz] at QT
        have HN : Hid ((((rs.take (k + 1)).countP (ofR p r) : Nat) : Int) = xn + (if ofR p r c = true then 1 else 0) ∧ (((rs.take (k + 1)).countP (fun c => ofR p r c && (stT c == t)) : Nat) : Int) = xm + (if (ofR p r c && (z == t)) = true then 1 else 0) ∧ (((rs.take (k + 1)).countP (fun c => ofR p r c && (stT c == 4 || stT c == 5)) : Nat) : Int) = xo + (if (ofR p r c && (z == 4 || z == 5)) = true then 1 else 0)) := ⟨n1, n2, n3⟩
        clear n1 n2 n3 hkl b1 b2 b3 hxn hxm hxo g1 g2 g3 hz hs
        cases e1 : (c.partner.toList == p.toList) with
        | false =>
          have HM : Hid ((((rs.take (k + 1)).countP (ofR p r) : Nat) : Int) = xn ∧ (((rs.take (k + 1)).countP (fun c => ofR p r c && (stT c == t)) : Nat) : Int) = xm ∧ (((rs.take (k + 1)).countP (fun c => ofR p r c && (stT c == 4 || stT c == 5)) : Nat) : Int) = xo) := by
            show _ ∧ _
            rw [HN.out.1, HN.out.2.1, HN.out.2.2, ofR, e1]
            simp
          clear QT
          go_wp2
          go_roundw
          case rel => exact ⟨k + 1, by go_num, by omega, by rw [HM.out.1], by rw [HM.out.2.1], by rw [HM.out.2.2], HW.out⟩
          case measure => simp [intOf]; omega
        | true =>
          cases e2 : (c.ref.toList == r.toList) with
          | false =>
            have HM : Hid ((((rs.take (k + 1)).countP (ofR p r) : Nat) : Int) = xn ∧ (((rs.take (k + 1)).countP (fun c => ofR p r c && (stT c == t)) : Nat) : Int) = xm ∧ (((rs.take (k + 1)).countP (fun c => ofR p r c && (stT c == 4 || stT c == 5)) : Nat) : Int) = xo) := by
              show _ ∧ _
              rw [HN.out.1, HN.out.2.1, HN.out.2.2, ofR, e1, e2]
              simp
            clear QT
            go_wp2
            go_roundw
            case rel => exact ⟨k + 1, by go_num, by omega, by rw [HM.out.1], by rw [HM.out.2.1], by rw [HM.out.2.2], HW.out⟩
            case measure => simp [intOf]; omega
          | true =>
            have HM : Hid ((((rs.take (k + 1)).countP (ofR p r) : Nat) : Int) = xn + 1 ∧ (((rs.take (k + 1)).countP (fun c => ofR p r c && (stT c == t)) : Nat) : Int) = xm + (if (z == t) = true then 1 else 0) ∧ (((rs.take (k + 1)).countP (fun c => ofR p r c && (stT c == 4 || stT c == 5)) : Nat) : Int) = xo + (if (z == 4 || z == 5) = true then 1 else 0)) := by
              show _ ∧ _
              rw [HN.out.1, HN.out.2.1, HN.out.2.2, ofR, e1, e2]
              simp
            go_wp2_with fail
            refine (QT _).mono ?_
            rintro e w7 ⟨rfl, hb7⟩
            have H7 : Hid (Below w4.heap.size w4 w7) := HW.out.trans (hb7.mono HW.out.size)
            clear hb7 QT q0 q1 q2 q3 q4 q5 q6 q7 e1 e2
            cases g1 : (z == t) <;> cases g4 : (z == 4) <;> cases g5 : (z == 5)
            all_goals have HQ : Hid (_ ∧ _ ∧ _) := HM.out
            all_goals rw [g1, g4, g5] at HM
            all_goals clear HQ
            all_goals go_wp2
            all_goals go_roundw
            all_goals first | (case' rel => exact ⟨k + 1, by go_num, by omega, by rw [HM.out.1], by rw [HM.out.2.1]; simp, by rw [HM.out.2.2]; simp, H7.out⟩) | skip
            all_goals simp [intOf]; omega
      · obtain rfl : k = rs.length := by omega
        rw [List.take_length]
        obtain ⟨n, hn⟩ : ∃ n, n = rs.countP (ofR p r) := ⟨_, rfl⟩
        obtain ⟨m, hm⟩ : ∃ m, m = rs.countP (fun c => ofR p r c && (stT c == t)) := ⟨_, rfl⟩
        obtain ⟨o, ho⟩ : ∃ o, o = rs.countP (fun c => ofR p r c && (stT c == 4 || stT c == 5)) := ⟨_, rfl⟩
        have HE2 : Hid ((n = 0 → t = 0) ∧ (n ≠ 0 → 1 ≤ t ∧ t ≤ 5 ∧ ((t = 4 ∨ t = 5) ↔ o = n) ∧ (m = n ∨ t = 2 ∨ t = 4))) := by rw [hn, hm, ho]; exact HE.out
        have HF : Hid (Below w.heap.size w wr) := H4.out.1.trans (HW.out.mono H4.out.1.size)
        rw [← hn, ← hm, ← ho]
        clear hn hm ho HE
        by_cases h0 : n = 0
        · obtain rfl := HE2.out.1 h0
          subst h0
          clear HE2
          go_wp2
          go_ret
          exact ⟨by first | rfl | simp, HF.out⟩
        · obtain ⟨t1, t5, f1, f2⟩ := HE2.out.2 h0
          have F1 : ((t == 4) || (t == 5)) = ((o : Int) == (n : Int)) := by
            rw [Bool.eq_iff_iff]
            simp only [Bool.or_eq_true, beq_iff_eq]
            rw [f1]
            omega
          have F2 : (((m : Int) == (n : Int)) || ((t == 2) || (t == 4))) = true := by
            simp only [Bool.or_eq_true, beq_iff_eq]
            omega
          have gn : ((n : Int) == 0) = false := by simp [h0]
          have hn1 : ¬ t < 1 := by omega
          have hn2 : ¬ t > 5 := by omega
          clear f1 f2 h0 HE2
          cases g4 : (t == 4) <;> cases g5 : (t == 5) <;> cases gO : ((o : Int) == (n : Int)) <;> cases gS : ((m : Int) == (n : Int)) <;> cases g2 : (t == 2) <;> rw [g4, g5, gO] at F1 <;> rw [gS, g2, g4] at F2 <;> first | (cases F1; done) | (cases F2; done) | clear F1 F2
          all_goals go_wp2
          all_goals go_ret
          all_goals exact ⟨by first | rfl | simp, HF.out⟩
theorem own : ownKnob Try.prog.godebug = none := by kernel_rfl
theorem laidOut : laidOutB Try.prog = true := by kernel_rfl
set_option maxRecDepth 100000 in
theorem lifted (os : Os) (started : os.Started) (H : Type) (enc : TypeId × Value → H) :
    ReturnsInHanded {} Try.checked os 5 .any (Rows.fnOrderStandsSpec.pre6 enc Try.prog Try.f5 Rows.fnOrderStandsRow.domain false) (Rows.fnOrderStandsSpec.post enc Try.prog Try.f5 false true false false) := by
  refine returnsInHanded_of_change (C := Try.checked) own started (by kernel_rfl) Try.func5
    (ChangeSpec.witness6 (enc := enc) (C := Try.checked) false ⟨#[], #[.slice none 0 0], []⟩ 8 (by kernel_rfl) (by kernel_rfl) (by kernel_rfl) (by kernel_rfl)) ?_
  intro W base args ds gs before hval0 hW hcnd _
  have hval : ∀ (j : Nat) t v, Try.f5.params[j]? = some t → args[j]? = some v → Value.okWide Try.prog W .any base t v := hval0
  have hW' := hW
  obtain ⟨p, q, hA0, hV, rfl, hfz, hnd⟩ := hW
  have hA : DataW.TrodAll enc Try.prog W 0 (fun _ => true) true Try.f5.params.toList args.toList ds p := hA0
  rw [Try.params5] at hA hval
  obtain ⟨v0, vs0, d0, ds0, p0, q0, hargs, rfl, rfl, h0, r0⟩ := trodAll_cons hA
  obtain ⟨rfl, rfl, rfl⟩ := trodAll_nil r0
  obtain rfl : args = #[v0] := by cases args; simp_all
  obtain ⟨rfl, rfl⟩ := trodVars_none hV
  obtain ⟨a0, len0, cap0, rfl⟩ := okWide_slice Try.underlying22 (hval 0 22 v0 rfl rfl)
  have k0 := h0
  have lt0 : ∀ x ∈ p0, x.block < W.heap.size := by obtain ⟨m, hm⟩ := k0; exact DataW.trod_lt m _ _ _ hm
  obtain ⟨z0, w0⟩ : ∃ zs, IsRow .u8 W a0 len0 cap0 zs := by
    obtain ⟨fuel, hf⟩ := h0
    rcases open_ints Try.underlying22 Try.underlying5 (by kernel_rfl) hf with ⟨hcs, _⟩ | ⟨x, l, c, zs, hcs, _, hl, hm, hz, _, hcell, hwz⟩
    · simp [Value.cells] at hcs
      obtain ⟨rfl, rfl, rfl⟩ := hcs
      exact ⟨[], .inl ⟨rfl, rfl, rfl, rfl⟩⟩
    · simp [Value.cells] at hcs
      obtain ⟨rfl, rfl, rfl⟩ := hcs
      exact ⟨zs, .inr ⟨_, rfl, hl, hm, by simpa using hz, hcell, hwz⟩⟩
  clear hA0 hval0
  refine (walk a0 len0 cap0 z0 W w0).mono fun e W' ⟨he, bel⟩ => ?_
  subst he
  exact ⟨_, rfl, _, _, _, [], _, [], hW', trodAll_mk1 (shut_bool Try.underlying4 _), (trodAll_cons_mk (Below.trod laidOut (by kernel_rfl) (of_decide_eq_true (by kernel_rfl)) k0 bel lt0) trodAll_mk0), rfl, bel.frame _, fun h => by cases h⟩
theorem over : Rows.fnOrderStandsRow.holds Try.pinned (OpenSpec.ofChange Rows.fnOrderStandsSpec) :=
  OpenClaim.holds_of_wide 5 Try.f5 rfl rfl rfl rfl rfl rfl rfl ⟨rfl, rfl, rfl, rfl, rfl⟩ rfl rfl rfl rfl rfl (by kernel_rfl) Try.func5 (by kernel_rfl)
    (of_decide_eq_true (by kernel_rfl)) (by unfold Func.isWrapper; first | (rw [if_pos (by decide +kernel)]; kernel_rfl) | (rw [if_neg (by decide +kernel)]; exact ⟨rfl, rfl⟩))
    (fun os started H enc _ => lifted os started H enc)
end fnOrderStands
theorem fnOrderStands_holds : Rows.FnOrderStandsSaid := fnOrderStands.over
#print axioms fnOrderStands_holds
end Go.Proofs.Ytppfobeencnbdaa
