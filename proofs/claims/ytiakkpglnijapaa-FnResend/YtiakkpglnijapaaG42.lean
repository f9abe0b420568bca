/- Texts of ours put together: TkS. -/
import Derived.Test.YtiakkpglnijapaaG41
import Derived.Test.YtiakkpglnijapaaG23
import Derived.Test.YtiakkpglnijapaaG06
import Derived.Test.YtiakkpglnijapaaG14
import Derived.Deep.Cut
import Derived.Deep.CutRange
namespace Go.Proofs.Ytiakkpglnijapaa
open Go.ChangeShapes Go.WideShapes Go.ChangeAt Go.RowKit
open Go.Sort
theorem l01Min_any (q m : Int) (w : World) : Calls Try.prog 37 #[.int .i64 q, .int .i64 m] w fun e w' => e = .returned (.int .i64 (min q m)) ∧ w' = w := by
  by_cases h : q < m
  · have HE : Hid (min q m = q) := by show min q m = q; omega
    go_enter Try.func37, Try.ntmps37
    go_wp2
    go_ret
    exact ⟨by rw [HE.out]; rfl, rfl⟩
  · have HE : Hid (min q m = m) := by show min q m = m; omega
    go_enter Try.func37, Try.ntmps37
    go_wp2
    go_ret
    exact ⟨by rw [HE.out]; rfl, rfl⟩
theorem frzT {W : World} {b t : Nat} {xs : Array Value} (h : W.heap[b]? = some (.cells xs t)) : ∀ o, W.frozen? ⟨b, o, none⟩ = false := fun o => by simp [World.frozen?, h]
set_option maxRecDepth 20000 in
set_option maxHeartbeats 16000000 in
theorem outboxTick_specI (v : Value) (rs : List OutR) (d : Int) (w : World) (h : RowOu w v rs) :
    Calls Try.prog 15 #[v, .int .i64 d] w fun e w' => AnsI w (tckO rs d) e w' := by
  have hlen := h.len
  obtain ⟨A, Cp, rfl⟩ := h.val
  have HZ : Hid (∀ x ∈ rs, x.partner.size ≤ 9223372036854775807 ∧ x.text.size ≤ 9223372036854775807) := fun x hx => by
    obtain ⟨i, hi⟩ := List.getElem?_of_mem hx
    exact h.sizes i x hi
  obtain ⟨W0, hW0⟩ : ∃ W0, w.alloc (.cells #[.slice none 0 0, .slice none 0 0, .slice none 0 0, .int .i64 0] 30) = W0 := ⟨_, rfl⟩
  have hb0 : Below w.heap.size w W0 := by rw [← hW0]; exact (Below.refl _ _).alloc (Nat.le_refl _) _
  have k1 : W0.heap[w.heap.size]? = some (.cells #[.slice none 0 0, .slice none 0 0, .slice none 0 0, .int .i64 0] 30) := by rw [← hW0]; exact World.alloc_heap_new _ _
  obtain ⟨R, hR⟩ : ∃ R, R = w.heap.size := ⟨_, rfl⟩
  rw [← hR] at k1
  have hge : w.heap.size ≤ R := by omega
  have HK : Hid (∀ W, Below W0.heap.size W0 W → W.heap[R]? = some (.cells #[.slice none 0 0, .slice none 0 0, .slice none 0 0, .int .i64 0] 30)) := fun W hW => (hW.block _ (Array.getElem?_eq_some_iff.1 k1).1).trans k1
  have HB : Hid (Below w.heap.size w W0) := hb0
  have HRW : Hid (∀ W, Below W0.heap.size W0 W → RowOu W (.slice A rs.length Cp) rs) := fun W hW => (h.below hb0).below hW
  have HW : Hid (w.alloc (.cells #[.slice none 0 0, .slice none 0 0, .slice none 0 0, .int .i64 0] 30) = W0 ∧ R = w.heap.size) := ⟨hW0, hR⟩
  clear hW0 hb0 k1 hR h
  go_enter Try.func15, Try.ntmps15
  go_upto_region 1 with fail
  try rw [HW.out.1]
  try rw [← HW.out.2]
  clear HW
  by_cases h4 : 400 < rs.length
  · have h4' : (400 : Int) < (rs.length : Int) := by omega
    go_wp2_with fail
    refine (wrong_any 2 _).mono ?_
    rintro e we ⟨rfl, hbe⟩
    have bE : Below W0.heap.size W0 we := (Below.refl W0.heap.size W0).trans (hbe.mono (Below.refl W0.heap.size W0).size)
    clear hbe
    have hRe := (HK.out we (bE))
    obtain ⟨r0, r1, r2, r3⟩ := bx4 hRe
    have hfR : ∀ o, we.frozen? ⟨R, o, none⟩ = false := fun o => by simp [World.frozen?, hRe]
    have HEE : Hid (Below w.heap.size w we ∧ we.heap[R]? = some (.cells #[.slice none 0 0, .slice none 0 0, .slice none 0 0, .int .i64 0] 30)) := ⟨HB.out.trans ((bE).mono HB.out.size), hRe⟩
    clear hRe
    go_wp2
    obtain ⟨f0, f1, f2, f3⟩ := bx4 (st4 (y0 := .slice none 0 0) (y1 := .slice none 0 0) (y2 := .slice none 0 0) (y3 := .int .i64 2) HEE.out.2)
    have HFB : Hid (Below w.heap.size w ((((we.setCell ⟨R, 0, none⟩ (.slice none 0 0)).setCell ⟨R, 1, none⟩ (.slice none 0 0)).setCell ⟨R, 2, none⟩ (.slice none 0 0)).setCell ⟨R, 3, none⟩ (.int .i64 2))) := (((HEE.out.1.setCell hge _).setCell hge _).setCell hge _).setCell hge _
    refine bodyPost_ret (v := .agg #[.slice none 0 0, .slice none 0 0, .slice none 0 0, .int .i64 2]) (by simp [results, Try.results15, go_sem, f0, f1, f2, f3]) rfl ?_
    rw [tckO_big h4]
    exact ansI_err 2 HFB.out
  have h4' : ¬ (400 : Int) < (rs.length : Int) := by omega
  go_wp2_with fail
  refine (outboxRight_spec _ rs _ (HRW.out _ (Below.refl _ _))).mono ?_
  rintro e w1 ⟨rfl, hb1⟩
  have H1 : Hid (Below W0.heap.size W0 w1) := hb1
  clear hb1
  cases hrb : ousB rs
  · have HE : Hid (tckO rs d = errO 1) := tckO_form h4 fun ⟨h, _⟩ => ousB_iff'.1 hrb h
    clear hrb
    go_wp2_with fail
    refine (wrong_any 1 _).mono ?_
    rintro e we ⟨rfl, hbe⟩
    have bE : Below W0.heap.size W0 we := (H1.out).trans (hbe.mono (H1.out).size)
    clear hbe
    have hRe := (HK.out we (bE))
    obtain ⟨r0, r1, r2, r3⟩ := bx4 hRe
    have hfR : ∀ o, we.frozen? ⟨R, o, none⟩ = false := fun o => by simp [World.frozen?, hRe]
    have HEE : Hid (Below w.heap.size w we ∧ we.heap[R]? = some (.cells #[.slice none 0 0, .slice none 0 0, .slice none 0 0, .int .i64 0] 30)) := ⟨HB.out.trans ((bE).mono HB.out.size), hRe⟩
    clear hRe
    go_wp2
    obtain ⟨f0, f1, f2, f3⟩ := bx4 (st4 (y0 := .slice none 0 0) (y1 := .slice none 0 0) (y2 := .slice none 0 0) (y3 := .int .i64 1) HEE.out.2)
    have HFB : Hid (Below w.heap.size w ((((we.setCell ⟨R, 0, none⟩ (.slice none 0 0)).setCell ⟨R, 1, none⟩ (.slice none 0 0)).setCell ⟨R, 2, none⟩ (.slice none 0 0)).setCell ⟨R, 3, none⟩ (.int .i64 1))) := (((HEE.out.1.setCell hge _).setCell hge _).setCell hge _).setCell hge _
    refine bodyPost_ret (v := .agg #[.slice none 0 0, .slice none 0 0, .slice none 0 0, .int .i64 1]) (by simp [results, Try.results15, go_sem, f0, f1, f2, f3]) rfl ?_
    rw [HE.out]
    exact ansI_err 1 HFB.out
  have HRL : Hid (RightO rs) := ousB_iff.1 hrb
  clear hrb
  obtain ⟨dy, hdy⟩ : ∃ dy, dy = dayB d := ⟨_, rfl⟩
  have Q2 := l01Day_any d
  rw [← hdy] at Q2
  have HDY : Hid (dy = dayB d) := hdy
  clear hdy
  cases dy with
  | false =>
    have HE : Hid (tckO rs d = errO 1) := tckO_form h4 fun ⟨_, h⟩ => by rw [← HDY.out] at h; cases h
    go_upto_region 4 with (first | (go_at_call 36; refine (Q2 _).mono ?_; rintro e w2 ⟨rfl, rfl⟩))
    go_wp2_with fail
    refine (wrong_any 1 _).mono ?_
    rintro e we ⟨rfl, hbe⟩
    have bE : Below W0.heap.size W0 we := (H1.out).trans (hbe.mono (H1.out).size)
    clear hbe
    have hRe := (HK.out we (bE))
    obtain ⟨r0, r1, r2, r3⟩ := bx4 hRe
    have hfR : ∀ o, we.frozen? ⟨R, o, none⟩ = false := fun o => by simp [World.frozen?, hRe]
    have HEE : Hid (Below w.heap.size w we ∧ we.heap[R]? = some (.cells #[.slice none 0 0, .slice none 0 0, .slice none 0 0, .int .i64 0] 30)) := ⟨HB.out.trans ((bE).mono HB.out.size), hRe⟩
    clear hRe
    go_wp2
    obtain ⟨f0, f1, f2, f3⟩ := bx4 (st4 (y0 := .slice none 0 0) (y1 := .slice none 0 0) (y2 := .slice none 0 0) (y3 := .int .i64 1) HEE.out.2)
    have HFB : Hid (Below w.heap.size w ((((we.setCell ⟨R, 0, none⟩ (.slice none 0 0)).setCell ⟨R, 1, none⟩ (.slice none 0 0)).setCell ⟨R, 2, none⟩ (.slice none 0 0)).setCell ⟨R, 3, none⟩ (.int .i64 1))) := (((HEE.out.1.setCell hge _).setCell hge _).setCell hge _).setCell hge _
    refine bodyPost_ret (v := .agg #[.slice none 0 0, .slice none 0 0, .slice none 0 0, .int .i64 1]) (by simp [results, Try.results15, go_sem, f0, f1, f2, f3]) rfl ?_
    rw [HE.out]
    exact ansI_err 1 HFB.out
  | true =>
  have hdd : 0 ≤ d ∧ d ≤ 100000 := dayB_iff.1 HDY.out.symm
  obtain ⟨hd0, hd1⟩ := hdd
  have HE : Hid (tckO rs d = ⟨tLi d rs, tSe d rs, tLo d rs, 0⟩) := tckO_yes HRL.out HDY.out.symm
  obtain ⟨w3, hw3⟩ : ∃ w3, w3 = w1 := ⟨_, rfl⟩
  rw [← hw3] at H1 ⊢
  clear hw3
  obtain ⟨W4, hW4⟩ : ∃ W4, w3.alloc (.cells #[.slice none 0 0, .slice none 0 0, .slice none 0 0, .int .i64 0] 30) = W4 := ⟨_, rfl⟩
  obtain ⟨X, hX⟩ : ∃ X, X = w3.heap.size := ⟨_, rfl⟩
  obtain ⟨NN, hNN⟩ : ∃ NN, W4.heap.size = NN := ⟨_, rfl⟩
  have hs4 : W4.heap.size = w3.heap.size + 1 := by rw [← hW4]; simp
  have ha4 : Below w3.heap.size w3 W4 := by rw [← hW4]; exact (Below.refl _ _).alloc (Nat.le_refl _) _
  have hx4 : W4.heap[X]? = some (.cells #[.slice none 0 0, .slice none 0 0, .slice none 0 0, .int .i64 0] 30) := by rw [← hW4, hX]; exact World.alloc_heap_new _ _
  have HT : Hid (TQ X NN W4 W4 (.slice none 0 0) (.slice none 0 0) (.slice none 0 0) [] [] []) := ⟨Keep.refl _ _, hNN, by omega, hx4, World.ownsRow_nil _ _ _ _, World.ownsRow_nil _ _ _ _, World.ownsRow_nil _ _ _ _, .inl rfl⟩
  have H4 : Hid (Below W0.heap.size W0 W4 ∧ R < X ∧ W0.heap.size ≤ X) := ⟨H1.out.trans (ha4.mono H1.out.size), by have := (Array.getElem?_eq_some_iff.1 (HK.out w3 H1.out)).1; omega, by have := H1.out.size; omega⟩
  have HW4 : Hid (w3.alloc (.cells #[.slice none 0 0, .slice none 0 0, .slice none 0 0, .int .i64 0] 30) = W4 ∧ X = w3.heap.size) := ⟨hW4, hX⟩
  clear hW4 hX hNN hs4 ha4 hx4
  go_upto_region 6 with (first | (go_at_call 36; refine (Q2 _).mono ?_; rintro e w2 ⟨rfl, rfl⟩))
  try rw [HW4.out.1]
  try rw [← HW4.out.2]
  clear HW4 Q2
  have HLB : Hid (∀ W, Keep X W4 W → Below W0.heap.size W0 W) := fun W hW => H4.out.1.trans (hW.below H4.out.2.2 H4.out.1.size)
  go_wp2_with fail
  go_loopw [6] (fun i wr => ∃ (k : Nat) (v1 v2 v3 : Value) (L : List OutR) (S : List SenR) (M : List OutR), i = .int .i64 (k : Int) ∧ k ≤ rs.length ∧ L = tLi d (rs.take k) ∧ S = tSe d (rs.take k) ∧ M = tLo d (rs.take k) ∧ TQ X NN W4 wr v1 v2 v3 L S M) (fun i _ => rs.length - (intOf i).toNat)
  case atStart => exact ⟨0, _, _, _, [], [], [], rfl, by omega, rfl, rfl, rfl, HT.out⟩
  case round =>
    obtain ⟨k, v1, v2, v3, L, S, M, rfl, hk, hL, hS, hM, hQ⟩ := hrel
    obtain ⟨a1, c1, a2, c2, a3, c3, rfl, rfl, rfl⟩ := hQ.vals
    have hln : L.length ≤ 400 ∧ S.length ≤ 400 ∧ M.length ≤ 400 := by
      have htl : (rs.take k).length ≤ 400 := by rw [List.length_take]; omega
      refine ⟨?_, ?_, ?_⟩
      · rw [hL]; simp only [tLi, kepL, List.length_map]; exact Nat.le_trans (List.length_filter_le _ _) htl
      · rw [hS]; simp only [tSe, List.length_map]; exact Nat.le_trans (List.length_filter_le _ _) htl
      · rw [hM]; exact Nat.le_trans (List.length_filter_le _ _) htl
    obtain ⟨hl1, hl2, hl3⟩ := hln
    have HI : Hid (L = tLi d (rs.take k) ∧ S = tSe d (rs.take k) ∧ M = tLo d (rs.take k) ∧ TQ X NN W4 wr (.slice a1 L.length c1) (.slice a2 S.length c2) (.slice a3 M.length c3) L S M) := ⟨hL, hS, hM, hQ⟩
    clear hL hS hM hQ
    by_cases hlt : k < rs.length
    · have hlt' : (k : Int) < (rs.length : Int) := by omega
      obtain ⟨b, o, cap', c, e, hs, ⟨q0, q1, q2, q3, q4⟩, _⟩ := (HRW.out wr (HLB.out wr HI.out.2.2.2.kp)).at hlt
      simp only [Value.slice.injEq, true_and] at e
      obtain ⟨rfl, rfl⟩ := e
      have e3 : rs.take (k + 1) = rs.take k ++ [c] := by
        rw [List.take_add_one, hs]
        rfl
      have HOK : Hid (OuOk c ∧ rs.take (k + 1) = rs.take k ++ [c]) := ⟨HRL.out.ok c (List.mem_of_getElem? hs), e3⟩
      have ht0 : 0 ≤ c.tries := HOK.out.1.r0
      have ht5 : c.tries ≤ 5 := HOK.out.1.r5
      obtain ⟨W5, hW5⟩ : ∃ W5, wr.alloc (.cells #[.string c.partner, .int .i64 c.number, .string c.text, .int .i64 c.tries, .int .i64 c.due] 25) = W5 := ⟨_, rfl⟩
      obtain ⟨B, hB⟩ : ∃ B, B = wr.heap.size := ⟨_, rfl⟩
      have ha5 : Below wr.heap.size wr W5 := by rw [← hW5]; exact (Below.refl _ _).alloc (Nat.le_refl _) _
      have hx5 : W5.heap[B]? = some (.cells #[.string c.partner, .int .i64 c.number, .string c.text, .int .i64 c.tries, .int .i64 c.due] 25) := by rw [← hW5, hB]; exact World.alloc_heap_new _ _
      have H5 : Hid (TQ X NN W4 W5 (.slice a1 L.length c1) (.slice a2 S.length c2) (.slice a3 M.length c3) L S M) := HI.out.2.2.2.below ha5
      have hNB : NN ≤ B := by rw [hB]; exact HI.out.2.2.2.le
      have hXB : X ≠ B := by have := HI.out.2.2.2.xN; omega
      have HVB : Hid (Value.ownBlock (.slice a1 L.length c1) ≠ some B ∧ Value.ownBlock (.slice a3 M.length c3) ≠ some B) := ⟨own_lt HI.out.2.2.2.r1 hB, own_lt HI.out.2.2.2.r3 hB⟩
      go_upto_region 10 with fail
      try rw [hW5]
      try rw [← hB]
      clear hW5 ha5 q0 q1 q2 q3 q4 hs e3 hB
      obtain ⟨q0, q1, q2, q3, q4⟩ := box5 hx5
      obtain ⟨x0, x1, x2, x3⟩ := bx4 H5.out.bx
      have hfX := frzT H5.out.bx
      have hle5 := H5.out.le
      by_cases hdu : d < c.due
      · have hl0 : lstB d c = false := by simp [lstB]; omega
        have hs0 : sntB d c = false := by simp [sntB]; omega
        have HN : Hid (tLi d (rs.take (k + 1)) = L ++ [c] ∧ tSe d (rs.take (k + 1)) = S ∧ tLo d (rs.take (k + 1)) = M) := by
          rw [HOK.out.2, tLi_app, tSe_app, tLo_app, hl0, hs0, ← HI.out.1, ← HI.out.2.1, ← HI.out.2.2.1]
          refine ⟨?_, ?_, ?_⟩
          · simp [aftO, hs0]
          · simp
          · simp
        clear hl0 hs0
        have hat := at_newOu' W5 c
        have hown := own_below H5.out.r1 ((Below.refl W5.heap.size W5).alloc (Nat.le_refl _) (.cells #[.string c.partner, .int .i64 c.number, .string c.text, .int .i64 c.tries, .int .i64 c.due] 25))
        have hnX := (H5.out.below ((Below.refl W5.heap.size W5).alloc (Nat.le_refl _) (.cells #[.string c.partner, .int .i64 c.number, .string c.text, .int .i64 c.tries, .int .i64 c.due] 25)))
        have HNX : Hid (TQ X NN W4 (W5.alloc (.cells #[.string c.partner, .int .i64 c.number, .string c.text, .int .i64 c.tries, .int .i64 c.due] 25)) (.slice a1 L.length c1) (.slice a2 S.length c2) (.slice a3 M.length c3) L S M) := hnX
        clear hnX
        go_wp2_with (first | (at_builtin; refine wpList_lieOu rfl _ _ rfl rfl rfl hown hat (by omega) HNX.out.le ?_; intro gg cap w6 ho6 hg6 hor6; have hG6 := HNX.out.grown hg6 (fun g e => (HNX.out.r1.lt g e).1); have H6 : Hid _ := HNX.out.app1 ho6 hg6 hor6; obtain ⟨y0, y1, y2, y3⟩ := bx4 hG6.2; have hf6 := frzT hG6.2; clear hG6 ho6 hg6 hor6))
        go_wp2
        go_roundw
        case rel => exact ⟨k + 1, _, _, _, L ++ [c], S, M, by go_num, by omega, HN.out.1.symm, HN.out.2.1.symm, HN.out.2.2.symm, by have h := H6.out; rw [show (L ++ [c]).length = L.length + 1 by simp] at h; exact h⟩
        case measure => simp [intOf]; omega
      · have hdu' : ¬ d < c.due := hdu
        by_cases ht : c.tries = 5
        · have hl0 : lstB d c = true := by simp [lstB, ht]; omega
          have hs0 : sntB d c = false := by simp [sntB, ht]
          have HN : Hid (tLi d (rs.take (k + 1)) = L ∧ tSe d (rs.take (k + 1)) = S ∧ tLo d (rs.take (k + 1)) = M ++ [c]) := by
            rw [HOK.out.2, tLi_app, tSe_app, tLo_app, hl0, hs0, ← HI.out.1, ← HI.out.2.1, ← HI.out.2.2.1]
            refine ⟨?_, ?_, ?_⟩
            · simp
            · simp
            · simp
          clear hl0 hs0
          have hat : AtOu (W5.alloc (.cells #[.string c.partner, .int .i64 c.number, .string c.text, .int .i64 5, .int .i64 c.due] 25)) W5.heap.size 0 c := by
            have h := at_newOu' W5 c
            rw [ht] at h
            exact h
          have hown := own_below H5.out.r3 ((Below.refl W5.heap.size W5).alloc (Nat.le_refl _) (.cells #[.string c.partner, .int .i64 c.number, .string c.text, .int .i64 5, .int .i64 c.due] 25))
          have HNX : Hid (TQ X NN W4 (W5.alloc (.cells #[.string c.partner, .int .i64 c.number, .string c.text, .int .i64 5, .int .i64 c.due] 25)) (.slice a1 L.length c1) (.slice a2 S.length c2) (.slice a3 M.length c3) L S M) := (H5.out.below ((Below.refl W5.heap.size W5).alloc (Nat.le_refl _) (.cells #[.string c.partner, .int .i64 c.number, .string c.text, .int .i64 5, .int .i64 c.due] 25)))
          go_wp2_with (first | (at_builtin; refine wpList_lieOu rfl _ _ rfl rfl rfl hown hat (by omega) HNX.out.le ?_; intro gg cap w6 ho6 hg6 hor6; have hG6 := HNX.out.grown hg6 (fun g e => (HNX.out.r3.lt g e).1); have H6 : Hid _ := HNX.out.app3 ho6 hg6 hor6; obtain ⟨y0, y1, y2, y3⟩ := bx4 hG6.2; have hf6 := frzT hG6.2; clear hG6 ho6 hg6 hor6))
          go_wp2
          go_roundw
          case rel => exact ⟨k + 1, _, _, _, L, S, M ++ [c], by go_num, by omega, HN.out.1.symm, HN.out.2.1.symm, HN.out.2.2.symm, by have h := H6.out; rw [show (M ++ [c]).length = M.length + 1 by simp] at h; exact h⟩
          case measure => simp [intOf]; omega
        · have ht' : c.tries < 5 := by omega
          have hl0 : lstB d c = false := by simp [lstB, ht]
          have hs0 : sntB d c = true := by simp [sntB, ht']; omega
          have HN : Hid (tLi d (rs.take (k + 1)) = L ++ [trdO d c] ∧ tSe d (rs.take (k + 1)) = S ++ [senO c] ∧ tLo d (rs.take (k + 1)) = M) := by
            rw [HOK.out.2, tLi_app, tSe_app, tLo_app, hl0, hs0, ← HI.out.1, ← HI.out.2.1, ← HI.out.2.2.1]
            refine ⟨?_, ?_, ?_⟩
            · simp [aftO, hs0]
            · simp
            · simp
          clear hl0 hs0
          have hat := at_newSe W5 (senO c)
          simp only [senO] at hat
          have hown := own_below H5.out.r2 ((Below.refl W5.heap.size W5).alloc (Nat.le_refl _) (.cells #[.string c.partner, .int .i64 c.number, .string c.text] 66))
          have HNX : Hid (TQ X NN W4 (W5.alloc (.cells #[.string c.partner, .int .i64 c.number, .string c.text] 66)) (.slice a1 L.length c1) (.slice a2 S.length c2) (.slice a3 M.length c3) L S M ∧ (W5.alloc (.cells #[.string c.partner, .int .i64 c.number, .string c.text] 66)).heap[B]? = some (.cells #[.string c.partner, .int .i64 c.number, .string c.text, .int .i64 c.tries, .int .i64 c.due] 25)) := ⟨(H5.out.below ((Below.refl W5.heap.size W5).alloc (Nat.le_refl _) _)), (((Below.refl W5.heap.size W5).alloc (Nat.le_refl _) _).block B (Array.getElem?_eq_some_iff.1 hx5).1).trans hx5⟩
          clear hx5
          go_upto_region 15 with (first | (at_builtin; refine wpList_lieSe rfl _ _ rfl rfl rfl hown hat (by omega) HNX.out.1.le ?_; intro gg cap w6 ho6 hg6 hor6; have hG6 := HNX.out.1.grown hg6 (fun g e => (HNX.out.1.r2.lt g e).1); have hB6 := (hg6.block B (Array.getElem?_eq_some_iff.1 HNX.out.2).1 (fun e => (own_apart HNX.out.1.r2 HNX.out.2 (by decide)) e.symm)).trans HNX.out.2; have H6 : Hid _ := HNX.out.1.app2 ho6 hg6; obtain ⟨y0, y1, y2, y3⟩ := bx4 hG6.2; have hf6 := frzT hG6.2; clear hG6 ho6 hg6 hor6))
          have H6' : Hid (TQ X NN W4 (w6.setCell ⟨X, 1, none⟩ (.slice (some ⟨gg, 0, none⟩) (S.length + 1) cap)) (.slice a1 L.length c1) (.slice (some ⟨gg, 0, none⟩) (S.length + 1) cap) (.slice a3 M.length c3) L (S ++ [senO c]) M ∧ (w6.setCell ⟨X, 1, none⟩ (.slice (some ⟨gg, 0, none⟩) (S.length + 1) cap)).heap[B]? = some (.cells #[.string c.partner, .int .i64 c.number, .string c.text, .int .i64 c.tries, .int .i64 c.due] 25)) := by
            have h := H6.out
            rw [show (S ++ [SenR.mk c.partner c.number c.text]).length = S.length + 1 by simp] at h
            exact ⟨h, (set_other _ _ _ _ _ (fun e => hXB e.symm)).trans hB6⟩
          clear hB6 H6
          obtain ⟨W7, hW7⟩ : ∃ W7, w6.setCell ⟨X, 1, none⟩ (.slice (some ⟨gg, 0, none⟩) (S.length + 1) cap) = W7 := ⟨_, rfl⟩
          try rw [show (S ++ [SenR.mk c.partner c.number c.text]).length = S.length + 1 by simp]
          rw [hW7] at H6' ⊢
          clear hW7 y0 y1 y2 y3 hf6 x0 x1 x2 x3 hfX q0 q1 q2 q3 q4
          obtain ⟨q0, q1, q2, q3, q4⟩ := box5 H6'.out.2
          have hfB := frzT H6'.out.2
          obtain ⟨z, hz⟩ : ∃ z, z = min 100000 (d + 3 * (c.tries + 1)) := ⟨_, rfl⟩
          have QM := l01Min_any 100000 (d + 3 * (c.tries + 1))
          rw [← hz] at QM
          have hz' : z = min (d + 3 * (c.tries + 1)) 100000 := by omega
          have HTD : Hid (trdO d c = ⟨c.partner, c.number, c.text, c.tries + 1, z⟩) := by show trdO d c = _; rw [hz']; rfl
          have hwA : IntKind.i64.wrap (c.tries + 1) = c.tries + 1 := by rw [IntKind.wrap_i64]; omega
          have hwB : IntKind.i64.wrap (3 * (c.tries + 1)) = 3 * (c.tries + 1) := by rw [IntKind.wrap_i64]; omega
          have hwC : IntKind.i64.wrap (d + 3 * (c.tries + 1)) = d + 3 * (c.tries + 1) := by rw [IntKind.wrap_i64]; omega
          clear hz hz'
          go_upto_region 17 with (first | (go_at_call 37; refine (QM _).mono ?_; rintro e w2 ⟨rfl, rfl⟩))
          obtain ⟨W8, hW8⟩ : ∃ W8, (W7.setCell ⟨B, 3, none⟩ (.int .i64 (c.tries + 1))).setCell ⟨B, 4, none⟩ (.int .i64 z) = W8 := ⟨_, rfl⟩
          have hb8 : W8.heap[B]? = some (.cells #[.string c.partner, .int .i64 c.number, .string c.text, .int .i64 (c.tries + 1), .int .i64 z] 25) := by
            rw [← hW8]
            simp [World.setCell, Array.getElem?_modify, H6'.out.2]
          have h2B : Value.ownBlock (.slice (some ⟨gg, 0, none⟩) (S.length + 1) cap) ≠ some B := own_apart H6'.out.1.r2 H6'.out.2 (by decide)
          have H8 : Hid (TQ X NN W4 W8 (.slice a1 L.length c1) (.slice (some ⟨gg, 0, none⟩) (S.length + 1) cap) (.slice a3 M.length c3) L (S ++ [senO c]) M ∧ W8.heap[B]? = some (.cells #[.string c.partner, .int .i64 c.number, .string c.text, .int .i64 (c.tries + 1), .int .i64 z] 25)) := ⟨by rw [← hW8]; exact (H6'.out.1.setB hNB HVB.out.1 h2B HVB.out.2 3 _).setB hNB HVB.out.1 h2B HVB.out.2 4 _, hb8⟩
          rw [hW8]
          clear hW8 hb8 h2B H6' q0 q1 q2 q3 q4 hfB
          obtain ⟨q0, q1, q2, q3, q4⟩ := box5 H8.out.2
          obtain ⟨x0, x1, x2, x3⟩ := bx4 H8.out.1.bx
          have hat := at_newOu' W8 ⟨c.partner, c.number, c.text, c.tries + 1, z⟩
          have hown := own_below H8.out.1.r1 ((Below.refl W8.heap.size W8).alloc (Nat.le_refl _) (.cells #[.string c.partner, .int .i64 c.number, .string c.text, .int .i64 (c.tries + 1), .int .i64 z] 25))
          have HNY : Hid (TQ X NN W4 (W8.alloc (.cells #[.string c.partner, .int .i64 c.number, .string c.text, .int .i64 (c.tries + 1), .int .i64 z] 25)) (.slice a1 L.length c1) (.slice (some ⟨gg, 0, none⟩) (S.length + 1) cap) (.slice a3 M.length c3) L (S ++ [senO c]) M) := H8.out.1.below ((Below.refl W8.heap.size W8).alloc (Nat.le_refl _) (.cells #[.string c.partner, .int .i64 c.number, .string c.text, .int .i64 (c.tries + 1), .int .i64 z] 25))
          go_wp2_with (first | (at_builtin; refine wpList_lieOu rfl _ _ rfl rfl rfl hown hat (by omega) HNY.out.le ?_; intro g9 cap9 w9 ho9 hg9 hor9; have hG9 := HNY.out.grown hg9 (fun g e => (HNY.out.r1.lt g e).1); have H9 : Hid _ := HNY.out.app1 ho9 hg9 hor9; obtain ⟨y0, y1, y2, y3⟩ := bx4 hG9.2; have hf9 := frzT hG9.2; clear hG9 ho9 hg9 hor9))
          go_wp2
          go_roundw
          case rel =>
            refine ⟨k + 1, _, _, _, L ++ [OutR.mk c.partner c.number c.text (c.tries + 1) z], S ++ [senO c], M, by go_num, by omega, ?_, HN.out.2.1.symm, HN.out.2.2.symm, by have h := H9.out; rw [show (L ++ [OutR.mk c.partner c.number c.text (c.tries + 1) z]).length = L.length + 1 by simp] at h; exact h⟩
            rw [← HTD.out]
            exact HN.out.1.symm
          case measure => simp [intOf]; omega
    · obtain rfl : k = rs.length := by omega
      have e9 : rs.take rs.length = rs := List.take_length
      have HN : Hid (L = tLi d rs ∧ S = tSe d rs ∧ M = tLo d rs) := by
        have h := HI.out
        rw [e9] at h
        exact ⟨h.1, h.2.1, h.2.2.1⟩
      clear e9
      have bE := HLB.out wr HI.out.2.2.2.kp
      obtain ⟨x0, x1, x2, x3⟩ := bx4 HI.out.2.2.2.bx
      have hRe := HK.out wr bE
      obtain ⟨r0, r1, r2, r3⟩ := bx4 hRe
      have hfR : ∀ o, wr.frozen? ⟨R, o, none⟩ = false := fun o => by simp [World.frozen?, hRe]
      have HEE : Hid (Below w.heap.size w wr ∧ wr.heap[R]? = some (.cells #[.slice none 0 0, .slice none 0 0, .slice none 0 0, .int .i64 0] 30)) := ⟨HB.out.trans (bE.mono HB.out.size), hRe⟩
      clear hRe bE
      go_wp2
      obtain ⟨f0, f1, f2, f3⟩ := bx4 (st4 (y0 := .slice a1 L.length c1) (y1 := .slice a2 S.length c2) (y2 := .slice a3 M.length c3) (y3 := .int .i64 0) HEE.out.2)
      refine bodyPost_ret (v := .agg #[.slice a1 L.length c1, .slice a2 S.length c2, .slice a3 M.length c3, .int .i64 0]) (by simp [results, Try.results15, go_sem, f0, f1, f2, f3]) rfl ?_
      rw [HE.out, ← HN.out.1, ← HN.out.2.1, ← HN.out.2.2]
      obtain ⟨b1, b2, b3, g1, g2, g3, hLL⟩ := HI.out.2.2.2.lists ⟨by omega, by omega, by omega⟩ (by
        rw [HN.out.1, HN.out.2.1, HN.out.2.2]
        refine ⟨fun x hx => ?_, fun x hx => ?_, fun x hx => ?_⟩
        · simp only [tLi, kepL, List.mem_map] at hx
          obtain ⟨y, hy, rfl⟩ := hx
          have := HZ.out y (List.mem_filter.1 hy).1
          unfold aftO
          split
          · exact this
          · exact this
        · simp only [tSe, List.mem_map] at hx
          obtain ⟨y, hy, rfl⟩ := hx
          exact HZ.out y (List.mem_filter.1 hy).1
        · exact HZ.out x (List.mem_filter.1 hx).1) 0
      have hXR := H4.out.2.1
      have hxN := HI.out.2.2.2.xN
      have hwN : w.heap.size ≤ NN := by have := HB.out.size; have := H4.out.2.2; omega
      exact ⟨_, _, _, b1, b2, b3, rfl, by omega, by omega, by omega, ⟨(((hLL.li.setR (by omega) 0 _).setR (by omega) 1 _).setR (by omega) 2 _).setR (by omega) 3 _, (((hLL.se.of_block fun _ => set_other _ _ _ _ _ (by omega)).of_block fun _ => set_other _ _ _ _ _ (by omega)).of_block fun _ => set_other _ _ _ _ _ (by omega)).of_block fun _ => set_other _ _ _ _ _ (by omega), (((hLL.lo.setR (by omega) 0 _).setR (by omega) 1 _).setR (by omega) 2 _).setR (by omega) 3 _, hLL.ne⟩, (((HEE.out.1.setCell hge _).setCell hge _).setCell hge _).setCell hge _⟩
theorem outboxTick_spec (v : Value) (rs : List OutR) (d : Int) (w : World) (h : RowOu w v rs) :
    Calls Try.prog 15 #[v, .int .i64 d] w fun e w' => AnsS w (tckO rs d) e w' :=
  (outboxTick_specI v rs d w h).mono fun _ _ ⟨u, s, l, _, _, _, h1, _, _, _, h2, h3⟩ => ⟨u, s, l, h1, h2.row, h3⟩
end Go.Proofs.Ytiakkpglnijapaa
