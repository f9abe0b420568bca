/- Contract of the model's OutboxHeard. -/
import Derived.Test.YtfjeaknlooomjaaOuPs
namespace Go.Proofs.Ytfjeaknlooomjaa
open Go.ChangeShapes Go.WideShapes Go.ChangeAt Go.RowKit
open Go.Sort
theorem filter_lt {α : Type} {p : α → Bool} : ∀ {l : List α} {x : α}, x ∈ l → p x = false → (l.filter p).length < l.length
  | [], _, h, _ => by simp at h
  | y :: r, x, h, hp => by
    rcases List.mem_cons.1 h with rfl | h
    · rw [List.filter_cons, if_neg (by simp [hp])]
      have := List.length_filter_le p r
      rw [List.length_cons]
      omega
    · have := filter_lt h hp
      rw [List.filter_cons, List.length_cons]
      split
      · rw [List.length_cons]
        omega
      · omega
set_option maxRecDepth 20000 in
set_option maxHeartbeats 8000000 in
theorem outboxHeard_spec (v : Value) (rs : List OutR) (p : ByteArray) (n : Int) (w : World) (h : RowOu w v rs) (hp : p.size ≤ 9223372036854775807) :
    Calls Try.prog 23 #[v, .string p, .int .i64 n] w fun e w' => AnsS w (hrdO rs p n) e w' := by
  have hlen := h.len
  obtain ⟨A, Cp, rfl⟩ := h.val
  have HZ : Hid (∀ x ∈ rs, x.partner.size ≤ 9223372036854775807 ∧ x.text.size ≤ 9223372036854775807) := fun x hx => by
    obtain ⟨i, hi⟩ := List.getElem?_of_mem hx
    exact h.sizes i x hi
  obtain ⟨W0, hW0⟩ : ∃ W0, w.alloc (.cells #[.slice none 0 0, .slice none 0 0, .slice none 0 0, .int .i64 0] 34) = W0 := ⟨_, rfl⟩
  have hb0 : Below w.heap.size w W0 := by rw [← hW0]; exact (Below.refl _ _).alloc (Nat.le_refl _) _
  have k1 : W0.heap[w.heap.size]? = some (.cells #[.slice none 0 0, .slice none 0 0, .slice none 0 0, .int .i64 0] 34) := by rw [← hW0]; exact World.alloc_heap_new _ _
  obtain ⟨R, hR⟩ : ∃ R, R = w.heap.size := ⟨_, rfl⟩
  rw [← hR] at k1
  have hge : w.heap.size ≤ R := by omega
  have HK : Hid (∀ W, Below W0.heap.size W0 W → W.heap[R]? = some (.cells #[.slice none 0 0, .slice none 0 0, .slice none 0 0, .int .i64 0] 34)) := fun W hW => (hW.block _ (Array.getElem?_eq_some_iff.1 k1).1).trans k1
  have HB : Hid (Below w.heap.size w W0) := hb0
  have HRW : Hid (∀ W, Below W0.heap.size W0 W → RowOu W (.slice A rs.length Cp) rs) := fun W hW => (h.below hb0).below hW
  have HW : Hid (w.alloc (.cells #[.slice none 0 0, .slice none 0 0, .slice none 0 0, .int .i64 0] 34) = W0 ∧ R = w.heap.size) := ⟨hW0, hR⟩
  clear hW0 hb0 k1 hR h
  go_enter Try.func23, Try.ntmps23
  go_upto_region 1 with fail
  try rw [HW.out.1]
  try rw [← HW.out.2]
  clear HW
  by_cases h4 : 400 < rs.length
  · have h4' : (400 : Int) < (rs.length : Int) := by omega
    go_wp2_with fail
    refine (wrong_any 2 _).mono ?_
    rintro e we ⟨rfl, hbe⟩
    have bE : Below W0.heap.size W0 we := (Below.refl W0.heap.size W0).trans (hbe.mono (Below.refl W0.heap.size W0).size)
    clear hbe
    have hRe := (HK.out we (bE))
    obtain ⟨r0, r1, r2, r3⟩ := bx4 hRe
    have hfR : ∀ o, we.frozen? ⟨R, o, none⟩ = false := fun o => by simp [World.frozen?, hRe]
    have HEE : Hid (Below w.heap.size w we ∧ we.heap[R]? = some (.cells #[.slice none 0 0, .slice none 0 0, .slice none 0 0, .int .i64 0] 34)) := ⟨HB.out.trans ((bE).mono HB.out.size), hRe⟩
    clear hRe
    go_wp2
    obtain ⟨f0, f1, f2, f3⟩ := bx4 (st4 (y0 := .slice none 0 0) (y1 := .slice none 0 0) (y2 := .slice none 0 0) (y3 := .int .i64 2) HEE.out.2)
    have HFB : Hid (Below w.heap.size w ((((we.setCell ⟨R, 0, none⟩ (.slice none 0 0)).setCell ⟨R, 1, none⟩ (.slice none 0 0)).setCell ⟨R, 2, none⟩ (.slice none 0 0)).setCell ⟨R, 3, none⟩ (.int .i64 2))) := (((HEE.out.1.setCell hge _).setCell hge _).setCell hge _).setCell hge _
    refine bodyPost_ret (v := .agg #[.slice none 0 0, .slice none 0 0, .slice none 0 0, .int .i64 2]) (by simp [results, Try.results23, go_sem, f0, f1, f2, f3]) rfl ?_
    rw [hrdO_big (.inl h4)]
    exact ansS_err 2 HFB.out
  have h4' : ¬ (400 : Int) < (rs.length : Int) := by omega
  by_cases h5 : 20000 < p.size
  · have h5' : (20000 : Int) < (p.size : Int) := by omega
    go_wp2_with fail
    refine (wrong_any 2 _).mono ?_
    rintro e we ⟨rfl, hbe⟩
    have bE : Below W0.heap.size W0 we := (Below.refl W0.heap.size W0).trans (hbe.mono (Below.refl W0.heap.size W0).size)
    clear hbe
    have hRe := (HK.out we (bE))
    obtain ⟨r0, r1, r2, r3⟩ := bx4 hRe
    have hfR : ∀ o, we.frozen? ⟨R, o, none⟩ = false := fun o => by simp [World.frozen?, hRe]
    have HEE : Hid (Below w.heap.size w we ∧ we.heap[R]? = some (.cells #[.slice none 0 0, .slice none 0 0, .slice none 0 0, .int .i64 0] 34)) := ⟨HB.out.trans ((bE).mono HB.out.size), hRe⟩
    clear hRe
    go_wp2
    obtain ⟨f0, f1, f2, f3⟩ := bx4 (st4 (y0 := .slice none 0 0) (y1 := .slice none 0 0) (y2 := .slice none 0 0) (y3 := .int .i64 2) HEE.out.2)
    have HFB : Hid (Below w.heap.size w ((((we.setCell ⟨R, 0, none⟩ (.slice none 0 0)).setCell ⟨R, 1, none⟩ (.slice none 0 0)).setCell ⟨R, 2, none⟩ (.slice none 0 0)).setCell ⟨R, 3, none⟩ (.int .i64 2))) := (((HEE.out.1.setCell hge _).setCell hge _).setCell hge _).setCell hge _
    refine bodyPost_ret (v := .agg #[.slice none 0 0, .slice none 0 0, .slice none 0 0, .int .i64 2]) (by simp [results, Try.results23, go_sem, f0, f1, f2, f3]) rfl ?_
    rw [hrdO_big (.inr h5)]
    exact ansS_err 2 HFB.out
  have h5' : ¬ (20000 : Int) < (p.size : Int) := by omega
  have H45 : Hid (¬ (400 < rs.length ∨ 20000 < p.size)) := fun h => by omega
  go_wp2_with fail
  refine (outboxRight_spec _ rs _ (HRW.out _ (Below.refl _ _))).mono ?_
  rintro e w1 ⟨rfl, hb1⟩
  have H1 : Hid (Below W0.heap.size W0 w1) := hb1
  clear hb1
  cases hrb : ousB rs
  · have HE : Hid (hrdO rs p n = errO 1) := hrdO_form H45.out (ousB_iff'.1 hrb)
    clear hrb
    go_wp2_with fail
    refine (wrong_any 1 _).mono ?_
    rintro e we ⟨rfl, hbe⟩
    have bE : Below W0.heap.size W0 we := (H1.out).trans (hbe.mono (H1.out).size)
    clear hbe
    have hRe := (HK.out we (bE))
    obtain ⟨r0, r1, r2, r3⟩ := bx4 hRe
    have hfR : ∀ o, we.frozen? ⟨R, o, none⟩ = false := fun o => by simp [World.frozen?, hRe]
    have HEE : Hid (Below w.heap.size w we ∧ we.heap[R]? = some (.cells #[.slice none 0 0, .slice none 0 0, .slice none 0 0, .int .i64 0] 34)) := ⟨HB.out.trans ((bE).mono HB.out.size), hRe⟩
    clear hRe
    go_wp2
    obtain ⟨f0, f1, f2, f3⟩ := bx4 (st4 (y0 := .slice none 0 0) (y1 := .slice none 0 0) (y2 := .slice none 0 0) (y3 := .int .i64 1) HEE.out.2)
    have HFB : Hid (Below w.heap.size w ((((we.setCell ⟨R, 0, none⟩ (.slice none 0 0)).setCell ⟨R, 1, none⟩ (.slice none 0 0)).setCell ⟨R, 2, none⟩ (.slice none 0 0)).setCell ⟨R, 3, none⟩ (.int .i64 1))) := (((HEE.out.1.setCell hge _).setCell hge _).setCell hge _).setCell hge _
    refine bodyPost_ret (v := .agg #[.slice none 0 0, .slice none 0 0, .slice none 0 0, .int .i64 1]) (by simp [results, Try.results23, go_sem, f0, f1, f2, f3]) rfl ?_
    rw [HE.out]
    exact ansS_err 1 HFB.out
  have HRL : Hid (RightO rs) := ousB_iff.1 hrb
  clear hrb
  obtain ⟨w3, hw3⟩ : ∃ w3, w3 = w1 := ⟨_, rfl⟩
  rw [← hw3] at H1 ⊢
  clear hw3
  have hb3 : Below w3.heap.size w3 (w3.alloc (.cells #[] 36)) := (Below.refl _ _).alloc (Nat.le_refl _) _
  have hown0 : (w3.alloc (.cells #[] 36)).ownsRow w3.heap.size 36 5 (.slice (some ⟨w3.heap.size, 0, none⟩) ([] : List OutR).length 0) ([] : List OutR).length (clOus ([] : List OutR)) := own0Ou w3 (Nat.le_refl _)
  have HO : Hid _ := And.intro hb3 hown0
  have H3 : Hid (∀ W, Below w3.heap.size w3 W → Below W0.heap.size W0 W) := fun W hW => H1.out.trans (hW.mono H1.out.size)
  clear hb3 hown0
  go_wp2_with fail
  go_loopw [7, 8] (fun lv i wr => ∃ (k : Nat) (A : Option Addr) (C : Nat) (ts oL : List OutR), i = .int .i64 (k : Int) ∧ k ≤ rs.length ∧ ts = rs.take k ∧ oL = ts.filter (fun x => decide (keyO x ≠ (p, n))) ∧ lv = .slice A oL.length C ∧ wr.ownsRow w3.heap.size 36 5 (.slice A oL.length C) oL.length (clOus oL) ∧ Below w3.heap.size w3 wr) (fun _ i _ => rs.length - (RowKit.intOf i).toNat)
  case atStart => exact ⟨0, _, 0, [], [], rfl, by omega, by simp, rfl, rfl, HO.out.2, HO.out.1⟩
  case round =>
    obtain ⟨k, A0, C0, ts, oL, rfl, hk, hts, hoL, rfl, hR, hb⟩ := hrel
    have hol : oL.length ≤ 402 := by
      have htl : ts.length ≤ 400 := by rw [hts, List.length_take]; omega
      have := List.length_filter_le (fun x => decide (keyO x ≠ (p, n))) ts
      rw [hoL]
      omega
    have HI : Hid (ts = rs.take k ∧ oL = ts.filter (fun x => decide (keyO x ≠ (p, n))) ∧ wr.ownsRow w3.heap.size 36 5 (.slice A0 oL.length C0) oL.length (clOus oL) ∧ Below w3.heap.size w3 wr) := ⟨hts, hoL, hR, hb⟩
    clear hts hoL hR hb
    by_cases hlt : k < rs.length
    · have hlt' : (k : Int) < (rs.length : Int) := by omega
      obtain ⟨b, o, cap', c, e, hs, hat, _⟩ := (HRW.out _ H1.out).at hlt
      simp only [Value.slice.injEq, true_and] at e
      obtain ⟨rfl, rfl⟩ := e
      have HAT : Hid (∀ W, Below w3.heap.size w3 W → AtOu W b (o + k * 5) c) := fun W hW => hat.below hW
      have e3 : rs.take (k + 1) = rs.take k ++ [c] := by
        rw [List.take_add_one, hs]
        rfl
      have HE3 : Hid (rs.take (k + 1) = ts ++ [c]) := by rw [HI.out.1]; exact e3
      clear hs e3 hat
      obtain ⟨q0, q1, q2, q3, q4⟩ := HAT.out wr HI.out.2.2.2
      have HKP : Hid (keyO c ≠ (p, n) → (ts ++ [c]).filter (fun x => decide (keyO x ≠ (p, n))) = oL ++ [c]) := fun hk => by
        rw [List.filter_append, ← HI.out.2.1, List.filter_cons, if_pos (decide_eq_true hk)]
        rfl
      have HDP : Hid (keyO c = (p, n) → (ts ++ [c]).filter (fun x => decide (keyO x ≠ (p, n))) = oL) := fun hk => by
        rw [List.filter_append, ← HI.out.2.1, List.filter_cons, if_neg (by simp [hk])]
        simp
      cases e1 : (c.partner.toList == p.toList)
      · have HN : Hid (keyO c ≠ (p, n)) := fun e => ba_no e1 (congrArg Prod.fst e)
        have e1' : (c.partner.toList != p.toList) = true := by simp [bne, e1]
        have hrow8 : (wr.alloc (.cells #[.string c.partner, .int .i64 c.number, .string c.text, .int .i64 c.tries, .int .i64 c.due] 36)).ownsRow w3.heap.size 36 5 (.slice A0 oL.length C0) oL.length (clOus oL) := (HI.out.2.2.1).alloc _
        have hat8 : AtOu (wr.alloc (.cells #[.string c.partner, .int .i64 c.number, .string c.text, .int .i64 c.tries, .int .i64 c.due] 36)) wr.heap.size 0 c := at_newOu _ _
        have hsz8 := (HI.out.2.2.2).size
        go_wp2_with (first | (at_builtin; refine wpList_appOu rfl _ _ rfl rfl rfl hrow8 hat8 (by omega) (by simp; omega) ?_; rintro v8 w8 hown8 hgrow8 ⟨A8, C8, rfl⟩))
        have H8 : Hid (w8.ownsRow w3.heap.size 36 5 (.slice A8 (oL ++ [c]).length C8) (oL ++ [c]).length (clOus (oL ++ [c])) ∧ Below w3.heap.size w3 w8) := ⟨hown8, ((HI.out.2.2.2).alloc hsz8 _).trans ⟨hgrow8.os, hgrow8.tape, hgrow8.output, hgrow8.size, fun q hq => hgrow8.block q (by simp; omega) (fun e => by have := (hrow8.lt q e.symm).1; omega)⟩⟩
        clear hown8 hgrow8 hrow8 hat8 hsz8
        go_wp2
        go_roundw
        case rel => exact ⟨k + 1, A8, C8, ts ++ [c], oL ++ [c], by go_num, by omega, HE3.out.symm, (HKP.out HN.out).symm, by simp, H8.out.1, H8.out.2⟩
        case measure => simp [RowKit.intOf]; omega
      · have e1' : (c.partner.toList != p.toList) = false := by simp [bne, e1]
        by_cases e2 : c.number = n
        · have HN : Hid (keyO c = (p, n)) := by show keyO c = (p, n); simp [keyO, ba_yes e1, e2]
          have e2' : (c.number != n) = false := by simp [bne, e2]
          go_wp2
          go_roundw
          case rel => exact ⟨k + 1, A0, C0, ts ++ [c], oL, by go_num, by omega, HE3.out.symm, (HDP.out HN.out).symm, rfl, HI.out.2.2.1, HI.out.2.2.2⟩
          case measure => simp [RowKit.intOf]; omega
        · have HN : Hid (keyO c ≠ (p, n)) := fun e => e2 (congrArg Prod.snd e)
          have e2' : (c.number != n) = true := by simp [bne, e2]
          have hrow8 : (wr.alloc (.cells #[.string c.partner, .int .i64 c.number, .string c.text, .int .i64 c.tries, .int .i64 c.due] 36)).ownsRow w3.heap.size 36 5 (.slice A0 oL.length C0) oL.length (clOus oL) := (HI.out.2.2.1).alloc _
          have hat8 : AtOu (wr.alloc (.cells #[.string c.partner, .int .i64 c.number, .string c.text, .int .i64 c.tries, .int .i64 c.due] 36)) wr.heap.size 0 c := at_newOu _ _
          have hsz8 := (HI.out.2.2.2).size
          go_wp2_with (first | (at_builtin; refine wpList_appOu rfl _ _ rfl rfl rfl hrow8 hat8 (by omega) (by simp; omega) ?_; rintro v8 w8 hown8 hgrow8 ⟨A8, C8, rfl⟩))
          have H8 : Hid (w8.ownsRow w3.heap.size 36 5 (.slice A8 (oL ++ [c]).length C8) (oL ++ [c]).length (clOus (oL ++ [c])) ∧ Below w3.heap.size w3 w8) := ⟨hown8, ((HI.out.2.2.2).alloc hsz8 _).trans ⟨hgrow8.os, hgrow8.tape, hgrow8.output, hgrow8.size, fun q hq => hgrow8.block q (by simp; omega) (fun e => by have := (hrow8.lt q e.symm).1; omega)⟩⟩
          clear hown8 hgrow8 hrow8 hat8 hsz8
          go_wp2
          go_roundw
          case rel => exact ⟨k + 1, A8, C8, ts ++ [c], oL ++ [c], by go_num, by omega, HE3.out.symm, (HKP.out HN.out).symm, by simp, H8.out.1, H8.out.2⟩
          case measure => simp [RowKit.intOf]; omega
    · obtain rfl : k = rs.length := by omega
      have hts : ts = rs := by rw [HI.out.1, List.take_length]
      have HF : Hid (oL = rs.filter (fun x => decide (keyO x ≠ (p, n)))) := by
        have h := HI.out.2.1
        rw [hts] at h
        exact h
      clear hts
      have bE := H3.out wr HI.out.2.2.2
      by_cases hyes : ∃ x ∈ rs, keyO x = (p, n)
      · have hlt : oL.length < rs.length := by
          obtain ⟨x, hx, hkx⟩ := hyes
          rw [HF.out]
          exact filter_lt hx (by simp [hkx])
        have hne : ¬ ((oL.length : Int) = (rs.length : Int)) := by omega
        have HE : Hid (hrdO rs p n = ⟨oL, [], [], 0⟩) := by rw [HF.out]; exact hrdO_yes H45.out HRL.out hyes
        obtain ⟨b9, hb9, hL9⟩ := LOu.of_owns HI.out.2.2.1 (by omega) (fun i g hi => HZ.out g (by
          have h1 := List.mem_of_getElem? hi
          rw [HF.out] at h1
          exact (List.mem_filter.1 h1).1))
        have hRl : R < w3.heap.size := (Array.getElem?_eq_some_iff.1 (HK.out w3 H1.out)).1
        have HL : Hid (LOu b9 wr (.slice A0 oL.length C0) oL ∧ b9 ≠ R) := ⟨hL9, by omega⟩
        clear hb9 hL9 hRl hyes
        have hRe := (HK.out wr (bE))
        obtain ⟨r0, r1, r2, r3⟩ := bx4 hRe
        have hfR : ∀ o, wr.frozen? ⟨R, o, none⟩ = false := fun o => by simp [World.frozen?, hRe]
        have HEE : Hid (Below w.heap.size w wr ∧ wr.heap[R]? = some (.cells #[.slice none 0 0, .slice none 0 0, .slice none 0 0, .int .i64 0] 34)) := ⟨HB.out.trans ((bE).mono HB.out.size), hRe⟩
        clear hRe
        go_wp2
        obtain ⟨f0, f1, f2, f3⟩ := bx4 (st4 (y0 := .slice A0 oL.length C0) (y1 := .slice none 0 0) (y2 := .slice none 0 0) (y3 := .int .i64 0) HEE.out.2)
        have HFB : Hid (Below w.heap.size w ((((wr.setCell ⟨R, 0, none⟩ (.slice A0 oL.length C0)).setCell ⟨R, 1, none⟩ (.slice none 0 0)).setCell ⟨R, 2, none⟩ (.slice none 0 0)).setCell ⟨R, 3, none⟩ (.int .i64 0))) := (((HEE.out.1.setCell hge _).setCell hge _).setCell hge _).setCell hge _
        refine bodyPost_ret (v := .agg #[.slice A0 oL.length C0, .slice none 0 0, .slice none 0 0, .int .i64 0]) (by simp [results, Try.results23, go_sem, f0, f1, f2, f3]) rfl ?_
        rw [HE.out]
        exact ansS_list ((((HL.out.1.setR HL.out.2 0 _).setR HL.out.2 1 _).setR HL.out.2 2 _).setR HL.out.2 3 _).row HFB.out
      · have hno : ∀ x ∈ rs, keyO x ≠ (p, n) := fun x hx hk => hyes ⟨x, hx, hk⟩
        have hle : oL.length = rs.length := by
          rw [HF.out, List.filter_eq_self.2 fun x hx => decide_eq_true (hno x hx)]
        have hle' : (oL.length : Int) = (rs.length : Int) := by omega
        have HE : Hid (hrdO rs p n = errO 6) := hrdO_none H45.out HRL.out hno
        have HLE : Hid (oL.length = rs.length) := hle
        clear hle hyes hno
        go_wp2_with fail
        refine (wrong_any 6 _).mono ?_
        rintro e we ⟨rfl, hbe⟩
        have bE : Below W0.heap.size W0 we := (H3.out wr HI.out.2.2.2).trans (hbe.mono (H3.out wr HI.out.2.2.2).size)
        clear hbe
        have hRe := (HK.out we (bE))
        obtain ⟨r0, r1, r2, r3⟩ := bx4 hRe
        have hfR : ∀ o, we.frozen? ⟨R, o, none⟩ = false := fun o => by simp [World.frozen?, hRe]
        have HEE : Hid (Below w.heap.size w we ∧ we.heap[R]? = some (.cells #[.slice none 0 0, .slice none 0 0, .slice none 0 0, .int .i64 0] 34)) := ⟨HB.out.trans ((bE).mono HB.out.size), hRe⟩
        clear hRe
        go_wp2
        obtain ⟨f0, f1, f2, f3⟩ := bx4 (st4 (y0 := .slice none 0 0) (y1 := .slice none 0 0) (y2 := .slice none 0 0) (y3 := .int .i64 6) HEE.out.2)
        have HFB : Hid (Below w.heap.size w ((((we.setCell ⟨R, 0, none⟩ (.slice none 0 0)).setCell ⟨R, 1, none⟩ (.slice none 0 0)).setCell ⟨R, 2, none⟩ (.slice none 0 0)).setCell ⟨R, 3, none⟩ (.int .i64 6))) := (((HEE.out.1.setCell hge _).setCell hge _).setCell hge _).setCell hge _
        refine bodyPost_ret (v := .agg #[.slice none 0 0, .slice none 0 0, .slice none 0 0, .int .i64 6]) (by simp [results, Try.results23, go_sem, f0, f1, f2, f3]) rfl ?_
        rw [HE.out]
        exact ansS_err 6 HFB.out
end Go.Proofs.Ytfjeaknlooomjaa
