/- Texts of ours put together: TkI. -/
import Derived.Test.YtiakkpglnijapaaG47
import Derived.Test.YtiakkpglnijapaaG49
import Derived.Deep.RegionLaw
import Derived.Deep.RegionHeld3
import Derived.Deep.LoopGhost
import Derived.Deep.Cut
import Derived.Deep.CutRange
import Derived.Deep.QuietTactic
import Derived.BigQuiet
import Derived.BigRegion
namespace Go.Proofs.Ytiakkpglnijapaa
open Go.ChangeShapes Go.WideShapes Go.ChangeAt Go.RowKit
open Go.Conc (scase rcase got heap_setChan size_setChan below_setChan)
theorem cell_setT {W : World} {b i R j : Nat} {x y : Value} (h : W.cell? ⟨b, i, none⟩ = some x) (hne : b ≠ R) : (W.setCell ⟨R, j, none⟩ y).cell? ⟨b, i, none⟩ = some x := by
  unfold World.cell? at h ⊢
  rw [set_other W b R j y hne]
  exact h
theorem undrewT {a b : World} (h : Below a.drew.heap.size a.drew b) : Below a.heap.size a b := (Below.refl _ _).drew.trans h
theorem frzI {W : World} {b t : Nat} {xs : Array Value} (h : W.heap[b]? = some (.cells xs t)) : ∀ o, W.frozen? ⟨b, o, none⟩ = false := fun o => by simp [World.frozen?, h]
theorem TQ.toTR {X N : Nat} {w1 W W' : World} {v1 v2 v3 : Value} {L : List OutR} {S : List SenR} {M : List OutR} {n s r : Nat} {qs : List Nat} (h : TQ X N w1 W v1 v2 v3 L S M) (hl : L.length ≤ 1000 ∧ M.length ≤ 1000) (hz : (∀ x ∈ L, x.partner.size ≤ 9223372036854775807 ∧ x.text.size ≤ 9223372036854775807) ∧ (∀ x ∈ M, x.partner.size ≤ 9223372036854775807 ∧ x.text.size ≤ 9223372036854775807)) (hb : Below W.heap.size W W') (hch : W'.heap[W.heap.size]? = some (.chan n (chB qs) true s r false)) :
    ∃ b1 b3, TR X N W.heap.size b1 b3 w1 W' v1 v2 v3 L S M n s qs ∧ (L ≠ [] → ∃ cap, v1 = .slice (some ⟨b1, 0, none⟩) L.length cap) := by
  obtain ⟨b1, g1, l1⟩ := LOu.of_owns h.r1 (by omega) (fun i g hi => hz.1 g (List.mem_of_getElem? hi))
  obtain ⟨b3, g3, l3⟩ := LOu.of_owns h.r3 (by omega) (fun i g hi => hz.2 g (List.mem_of_getElem? hi))
  have hv : ∀ {b : Nat} {v : Value} {Q : List OutR}, LOu b W v Q → Q ≠ [] → ∃ cap, v = .slice (some ⟨b, 0, none⟩) Q.length cap := fun l hn => by
    obtain ⟨a, cap, e, hc⟩ := l.shape
    obtain ⟨rfl, _⟩ := hc hn
    exact ⟨cap, e⟩
  refine ⟨b1, b3, ⟨h.kp.trans (Keep.of_below hb), h.sz, h.xN, (hb.block _ (Array.getElem?_eq_some_iff.1 h.bx).1).trans h.bx, l1.below hb, own_below h.r2 hb, l3.below hb, g1, g3, fun h1 h3 e => ?_, h.le, ⟨r, hch⟩⟩, fun hn => hv l1 hn⟩
  obtain ⟨c1, e1⟩ := hv l1 h1
  obtain ⟨c3, e3⟩ := hv l3 h3
  rcases h.ne with h2 | h2
  · rw [e1] at h2; cases h2
  · exact h2 (by rw [e1, e3, e]; rfl)
def chLen (C : Nat) (W : World) : Nat := match W.heap[C]? with
  | some (.chan _ buf _ _ _ _) => buf.size
  | _ => 0
theorem chLen_of {C n s r : Nat} {W : World} {qs : List Nat} (h : W.heap[C]? = some (.chan n (chB qs) true s r false)) : chLen C W = qs.length := by
  simp [chLen, h, chB_size]
set_option maxRecDepth 20000 in
set_option maxHeartbeats 16000000 in
theorem outboxTick_impl (A : Option Addr) (Cp : Nat) (rs : List OutR) (d : Int) (w : World) (h : RowOu w (.slice A rs.length Cp) rs) (hz : ∀ c ∈ rs, c.partner.size ≤ 1048576 ∧ c.text.size ≤ 1048576) :
    Calls Try.prog 16 #[.slice A rs.length Cp, .int .i64 d] w fun e w' => AnsI w (tckO rs d) e w' := by
  have hlen := h.len
  have HZ : Hid (∀ c ∈ rs, c.partner.size ≤ 1048576 ∧ c.text.size ≤ 1048576) := hz
  clear hz
  obtain ⟨W0, hW0⟩ : ∃ W0, w.alloc (.cells #[.slice none 0 0, .slice none 0 0, .slice none 0 0, .int .i64 0] 30) = W0 := ⟨_, rfl⟩
  have hb0 : Below w.heap.size w W0 := by rw [← hW0]; exact (Below.refl _ _).alloc (Nat.le_refl _) _
  have k1 : W0.heap[w.heap.size]? = some (.cells #[.slice none 0 0, .slice none 0 0, .slice none 0 0, .int .i64 0] 30) := by rw [← hW0]; exact World.alloc_heap_new _ _
  obtain ⟨R, hR⟩ : ∃ R, R = w.heap.size := ⟨_, rfl⟩
  rw [← hR] at k1
  have hge : w.heap.size ≤ R := by omega
  have HK : Hid (∀ W, Below W0.heap.size W0 W → W.heap[R]? = some (.cells #[.slice none 0 0, .slice none 0 0, .slice none 0 0, .int .i64 0] 30)) := fun W hW => (hW.block _ (Array.getElem?_eq_some_iff.1 k1).1).trans k1
  have HB : Hid (Below w.heap.size w W0) := hb0
  have HRW : Hid (∀ W, Below W0.heap.size W0 W → RowOu W (.slice A rs.length Cp) rs) := fun W hW => (h.below hb0).below hW
  have HW : Hid (w.alloc (.cells #[.slice none 0 0, .slice none 0 0, .slice none 0 0, .int .i64 0] 30) = W0 ∧ R = w.heap.size) := ⟨hW0, hR⟩
  clear hW0 hb0 k1 hR h
  go_enter Try.func16, Try.ntmps16
  go_upto_region 1 with fail
  try rw [HW.out.1]
  try rw [← HW.out.2]
  clear HW
  by_cases h4 : 400 < rs.length
  · have h4' : (400 : Int) < (rs.length : Int) := by omega
    have hRe := (HK.out W0 (Below.refl W0.heap.size W0))
    obtain ⟨r0, r1, r2, r3⟩ := bx4 hRe
    have hfR : ∀ o, W0.frozen? ⟨R, o, none⟩ = false := fun o => by simp [World.frozen?, hRe]
    have HEE : Hid (Below w.heap.size w W0 ∧ W0.heap[R]? = some (.cells #[.slice none 0 0, .slice none 0 0, .slice none 0 0, .int .i64 0] 30)) := ⟨HB.out.trans ((Below.refl W0.heap.size W0).mono HB.out.size), hRe⟩
    clear hRe
    go_wp2
    obtain ⟨f0, f1, f2, f3⟩ := bx4 (st4 (y0 := .slice none 0 0) (y1 := .slice none 0 0) (y2 := .slice none 0 0) (y3 := .int .i64 2) HEE.out.2)
    have HFB : Hid (Below w.heap.size w ((((W0.setCell ⟨R, 0, none⟩ (.slice none 0 0)).setCell ⟨R, 1, none⟩ (.slice none 0 0)).setCell ⟨R, 2, none⟩ (.slice none 0 0)).setCell ⟨R, 3, none⟩ (.int .i64 2))) := (((HEE.out.1.setCell hge _).setCell hge _).setCell hge _).setCell hge _
    refine bodyPost_ret (v := .agg #[.slice none 0 0, .slice none 0 0, .slice none 0 0, .int .i64 2]) (by simp [results, Try.results16, go_sem, f0, f1, f2, f3]) rfl ?_
    rw [tckO_big h4]
    exact ansI_err 2 HFB.out
  have h4' : ¬ (400 : Int) < (rs.length : Int) := by omega
  go_wp2_with fail
  refine (outboxRight_impl _ rs _ (HRW.out _ (Below.refl _ _))).mono ?_
  rintro e w1 ⟨rfl, hb1⟩
  have H1 : Hid (Below W0.heap.size W0 w1) := hb1
  clear hb1
  cases hrb : ousB rs
  · have HE : Hid (tckO rs d = errO 1) := tckO_form h4 fun ⟨h, _⟩ => ousB_iff'.1 hrb h
    clear hrb
    have hRe := (HK.out w1 (H1.out))
    obtain ⟨r0, r1, r2, r3⟩ := bx4 hRe
    have hfR : ∀ o, w1.frozen? ⟨R, o, none⟩ = false := fun o => by simp [World.frozen?, hRe]
    have HEE : Hid (Below w.heap.size w w1 ∧ w1.heap[R]? = some (.cells #[.slice none 0 0, .slice none 0 0, .slice none 0 0, .int .i64 0] 30)) := ⟨HB.out.trans ((H1.out).mono HB.out.size), hRe⟩
    clear hRe
    go_wp2
    obtain ⟨f0, f1, f2, f3⟩ := bx4 (st4 (y0 := .slice none 0 0) (y1 := .slice none 0 0) (y2 := .slice none 0 0) (y3 := .int .i64 1) HEE.out.2)
    have HFB : Hid (Below w.heap.size w ((((w1.setCell ⟨R, 0, none⟩ (.slice none 0 0)).setCell ⟨R, 1, none⟩ (.slice none 0 0)).setCell ⟨R, 2, none⟩ (.slice none 0 0)).setCell ⟨R, 3, none⟩ (.int .i64 1))) := (((HEE.out.1.setCell hge _).setCell hge _).setCell hge _).setCell hge _
    refine bodyPost_ret (v := .agg #[.slice none 0 0, .slice none 0 0, .slice none 0 0, .int .i64 1]) (by simp [results, Try.results16, go_sem, f0, f1, f2, f3]) rfl ?_
    rw [HE.out]
    exact ansI_err 1 HFB.out
  have HRL : Hid (RightO rs) := ousB_iff.1 hrb
  clear hrb
  obtain ⟨dy, hdy⟩ : ∃ dy, dy = dayB d := ⟨_, rfl⟩
  have Q2 := isDay_any d
  rw [← hdy] at Q2
  have HDY : Hid (dy = dayB d) := hdy
  clear hdy
  cases dy with
  | false =>
    have HE : Hid (tckO rs d = errO 1) := tckO_form h4 fun ⟨_, h⟩ => by rw [← HDY.out] at h; cases h
    go_upto_region 4 with (first | (go_at_call 38; refine (Q2 _).mono ?_; rintro e w2 ⟨rfl, rfl⟩))
    have hRe := (HK.out w2 (H1.out))
    obtain ⟨r0, r1, r2, r3⟩ := bx4 hRe
    have hfR : ∀ o, w2.frozen? ⟨R, o, none⟩ = false := fun o => by simp [World.frozen?, hRe]
    have HEE : Hid (Below w.heap.size w w2 ∧ w2.heap[R]? = some (.cells #[.slice none 0 0, .slice none 0 0, .slice none 0 0, .int .i64 0] 30)) := ⟨HB.out.trans ((H1.out).mono HB.out.size), hRe⟩
    clear hRe
    go_wp2
    obtain ⟨f0, f1, f2, f3⟩ := bx4 (st4 (y0 := .slice none 0 0) (y1 := .slice none 0 0) (y2 := .slice none 0 0) (y3 := .int .i64 1) HEE.out.2)
    have HFB : Hid (Below w.heap.size w ((((w2.setCell ⟨R, 0, none⟩ (.slice none 0 0)).setCell ⟨R, 1, none⟩ (.slice none 0 0)).setCell ⟨R, 2, none⟩ (.slice none 0 0)).setCell ⟨R, 3, none⟩ (.int .i64 1))) := (((HEE.out.1.setCell hge _).setCell hge _).setCell hge _).setCell hge _
    refine bodyPost_ret (v := .agg #[.slice none 0 0, .slice none 0 0, .slice none 0 0, .int .i64 1]) (by simp [results, Try.results16, go_sem, f0, f1, f2, f3]) rfl ?_
    rw [HE.out]
    exact ansI_err 1 HFB.out
  | true =>
  have hdd : 0 ≤ d ∧ d ≤ 100000 := dayB_iff.1 HDY.out.symm
  have HDD : Hid (0 ≤ d ∧ d ≤ 100000) := hdd
  clear hdd
  have HE : Hid (tckO rs d = ⟨tLi d rs, tSe d rs, tLo d rs, 0⟩) := tckO_yes HRL.out HDY.out.symm
  obtain ⟨w3, hw3⟩ : ∃ w3, w3 = w1 := ⟨_, rfl⟩
  rw [← hw3] at H1 ⊢
  clear hw3
  obtain ⟨W4, hW4⟩ : ∃ W4, w3.alloc (.cells #[.slice none 0 0, .slice none 0 0, .slice none 0 0, .int .i64 0] 30) = W4 := ⟨_, rfl⟩
  obtain ⟨X, hX⟩ : ∃ X, X = w3.heap.size := ⟨_, rfl⟩
  obtain ⟨NN, hNN⟩ : ∃ NN, W4.heap.size = NN := ⟨_, rfl⟩
  have hs4 : W4.heap.size = w3.heap.size + 1 := by rw [← hW4]; simp
  have ha4 : Below w3.heap.size w3 W4 := by rw [← hW4]; exact (Below.refl _ _).alloc (Nat.le_refl _) _
  have hx4 : W4.heap[X]? = some (.cells #[.slice none 0 0, .slice none 0 0, .slice none 0 0, .int .i64 0] 30) := by rw [← hW4, hX]; exact World.alloc_heap_new _ _
  have HT : Hid (TQ X NN W4 W4 (.slice none 0 0) (.slice none 0 0) (.slice none 0 0) [] [] []) := ⟨Keep.refl _ _, hNN, by omega, hx4, World.ownsRow_nil _ _ _ _, World.ownsRow_nil _ _ _ _, World.ownsRow_nil _ _ _ _, .inl rfl⟩
  have H4 : Hid (Below W0.heap.size W0 W4 ∧ R < X ∧ W0.heap.size ≤ X) := ⟨H1.out.trans (ha4.mono H1.out.size), by have := (Array.getElem?_eq_some_iff.1 (HK.out w3 H1.out)).1; omega, by have := H1.out.size; omega⟩
  have HW4 : Hid (w3.alloc (.cells #[.slice none 0 0, .slice none 0 0, .slice none 0 0, .int .i64 0] 30) = W4 ∧ X = w3.heap.size) := ⟨hW4, hX⟩
  clear hW4 hX hNN hs4 ha4 hx4
  go_upto_region 6 with (first | (go_at_call 38; refine (Q2 _).mono ?_; rintro e w2 ⟨rfl, rfl⟩))
  try rw [HW4.out.1]
  try rw [← HW4.out.2]
  clear HW4 Q2
  have HLB : Hid (∀ W, Keep X W4 W → Below W0.heap.size W0 W) := fun W hW => H4.out.1.trans (hW.below H4.out.2.2 H4.out.1.size)
  go_wp2_with fail
  go_loopw [25] (fun i wr => ∃ (k : Nat) (v1 v3 : Value) (L M : List OutR), i = .int .i64 (k : Int) ∧ k ≤ rs.length ∧ L = kepL d (rs.take k) ∧ M = tLo d (rs.take k) ∧ TQ X NN W4 wr v1 (.slice none 0 0) v3 L [] M) (fun i _ => rs.length - (intOf i).toNat)
  case atStart => exact ⟨0, _, _, [], [], rfl, by omega, rfl, rfl, HT.out⟩
  case round =>
    obtain ⟨k, v1, v3, L, M, rfl, hk, hL, hM, hQ⟩ := hrel
    obtain ⟨a1, c1, a2, c2, a3, c3, rfl, e2, rfl⟩ := hQ.vals
    clear e2
    have hln : L.length ≤ 400 ∧ M.length ≤ 400 := by
      have htl : (rs.take k).length ≤ 400 := by rw [List.length_take]; omega
      refine ⟨?_, ?_⟩
      · rw [hL]; exact Nat.le_trans (List.length_filter_le _ _) htl
      · rw [hM]; exact Nat.le_trans (List.length_filter_le _ _) htl
    obtain ⟨hl1, hl3⟩ := hln
    have HI : Hid (L = kepL d (rs.take k) ∧ M = tLo d (rs.take k) ∧ TQ X NN W4 wr (.slice a1 L.length c1) (.slice none 0 0) (.slice a3 M.length c3) L [] M) := ⟨hL, hM, hQ⟩
    clear hL hM hQ
    by_cases hlt : k < rs.length
    · have hlt' : (k : Int) < (rs.length : Int) := by omega
      obtain ⟨b, o, cap', c, e, hs, ⟨q0, q1, q2, q3, q4⟩, _⟩ := (HRW.out wr (HLB.out wr HI.out.2.2.kp)).at hlt
      simp only [Value.slice.injEq, true_and] at e
      obtain ⟨rfl, rfl⟩ := e
      have e3 : rs.take (k + 1) = rs.take k ++ [c] := by
        rw [List.take_add_one, hs]
        rfl
      have HOK : Hid ((c.partner.size ≤ 1048576 ∧ c.text.size ≤ 1048576) ∧ rs.take (k + 1) = rs.take k ++ [c]) := ⟨HZ.out c (List.mem_of_getElem? hs), e3⟩
      obtain ⟨W5, hW5⟩ : ∃ W5, wr.alloc (.cells #[.string c.partner, .int .i64 c.number, .string c.text, .int .i64 c.tries, .int .i64 c.due] 25) = W5 := ⟨_, rfl⟩
      obtain ⟨B, hB⟩ : ∃ B, B = wr.heap.size := ⟨_, rfl⟩
      have ha5 : Below wr.heap.size wr W5 := by rw [← hW5]; exact (Below.refl _ _).alloc (Nat.le_refl _) _
      have hx5 : W5.heap[B]? = some (.cells #[.string c.partner, .int .i64 c.number, .string c.text, .int .i64 c.tries, .int .i64 c.due] 25) := by rw [← hW5, hB]; exact World.alloc_heap_new _ _
      have H5 : Hid (TQ X NN W4 W5 (.slice a1 L.length c1) (.slice none 0 0) (.slice a3 M.length c3) L [] M ∧ W5.heap[B]? = some (.cells #[.string c.partner, .int .i64 c.number, .string c.text, .int .i64 c.tries, .int .i64 c.due] 25)) := ⟨HI.out.2.2.below ha5, hx5⟩
      go_upto_region 9 with fail
      try rw [hW5]
      try rw [← hB]
      clear hW5 ha5 q0 q1 q2 q3 q4 hs e3 hB hx5
      obtain ⟨q0, q1, q2, q3, q4⟩ := box5 H5.out.2
      obtain ⟨ls, hls⟩ : ∃ ls, ls = lstB d c := ⟨_, rfl⟩
      have Q5 := lostOn_any c d
      rw [← hls] at Q5
      have HLS : Hid (ls = lstB d c) := hls
      clear hls
      go_wp2_with fail
      refine (Q5 _).mono ?_
      rintro e w6 ⟨rfl, hb6⟩
      have H6 : Hid (TQ X NN W4 w6 (.slice a1 L.length c1) (.slice none 0 0) (.slice a3 M.length c3) L [] M ∧ w6.heap[B]? = some (.cells #[.string c.partner, .int .i64 c.number, .string c.text, .int .i64 c.tries, .int .i64 c.due] 25)) := ⟨H5.out.1.below hb6, (hb6.block _ (Array.getElem?_eq_some_iff.1 H5.out.2).1).trans H5.out.2⟩
      clear hb6 q0 q1 q2 q3 q4 Q5 H5
      have HX : Hid (∀ W, Below w6.heap.size w6 W → TQ X NN W4 W (.slice a1 L.length c1) (.slice none 0 0) (.slice a3 M.length c3) L [] M) := fun W hW => H6.out.1.below hW
      obtain ⟨q0, q1, q2, q3, q4⟩ := box5 H6.out.2
      obtain ⟨x0, x1, x2, x3⟩ := bx4 H6.out.1.bx
      have hcz : c.partner.size ≤ 281474976710656 ∧ c.text.size ≤ 281474976710656 := by have := HOK.out.1; omega
      cases ls with
      | true =>
        have HN : Hid (kepL d (rs.take (k + 1)) = L ∧ tLo d (rs.take (k + 1)) = M ++ [c]) := by
          rw [HOK.out.2, kepL_app, tLo_app, ← HLS.out, ← HI.out.1, ← HI.out.2.1]
          exact ⟨by simp, by simp⟩
        go_upto_region 10 with fail
        go_region_law (first | (go_simp; go_at_call 40; refine (copyOu_any c _ hcz).mono ?_; rintro e w7 ⟨rfl, hb7'⟩; have hb7 : Below w6.heap.size w6 w7 := (by first | exact hb7' | exact undrewT hb7'); have HA : Hid _ := HX.out w7 hb7; have HB7 : Hid _ := HX.out (w7.alloc (.cells #[.string c.partner, .int .i64 c.number, .string c.text, .int .i64 c.tries, .int .i64 c.due] 25)) (hb7.alloc hb7.size _); obtain ⟨s0, s1, s2, s3⟩ := bx4 HA.out.bx; obtain ⟨t0, t1, t2, t3⟩ := bx4 HB7.out.bx; clear hb7 hb7'; try dsimp only) | (refine step_appOu (by rfl) _ _ (by rfl) (by rfl) (by rfl) HB7.out.r3 (at_newOu' w7 c) (by omega) HB7.out.le ?_; intro gg cap w8 ho8 hg8 hor8; have hG8 := HB7.out.grown hg8 (fun g e => (HB7.out.r3.lt g e).1); have H8 : Hid _ := HB7.out.app3 ho8 hg8 hor8; obtain ⟨y0, y1, y2, y3⟩ := bx4 hG8.2; have hf8 := frzI hG8.2; clear hG8 ho8 hg8 hor8; try dsimp only) | fail)
        all_goals go_wp2
        all_goals go_roundw
        all_goals first | exact ⟨k + 1, _, _, L, M ++ [c], by go_num, by omega, HN.out.1.symm, HN.out.2.symm, by have h := H8.out; rw [show (M ++ [c]).length = M.length + 1 by simp] at h; exact h⟩ | exact ⟨k + 1, _, _, L, M ++ [c], by go_num, by omega, HN.out.1.symm, HN.out.2.symm, H8.out⟩ | (simp [intOf]; omega)
      | false =>
        have HN : Hid (kepL d (rs.take (k + 1)) = L ++ [c] ∧ tLo d (rs.take (k + 1)) = M) := by
          rw [HOK.out.2, kepL_app, tLo_app, ← HLS.out, ← HI.out.1, ← HI.out.2.1]
          exact ⟨by simp, by simp⟩
        go_upto_region 11 with fail
        go_region_law (first | (go_simp; go_at_call 40; refine (copyOu_any c _ hcz).mono ?_; rintro e w7 ⟨rfl, hb7'⟩; have hb7 : Below w6.heap.size w6 w7 := (by first | exact hb7' | exact undrewT hb7'); have HA : Hid _ := HX.out w7 hb7; have HB7 : Hid _ := HX.out (w7.alloc (.cells #[.string c.partner, .int .i64 c.number, .string c.text, .int .i64 c.tries, .int .i64 c.due] 25)) (hb7.alloc hb7.size _); obtain ⟨s0, s1, s2, s3⟩ := bx4 HA.out.bx; obtain ⟨t0, t1, t2, t3⟩ := bx4 HB7.out.bx; clear hb7 hb7'; try dsimp only) | (refine step_appOu (by rfl) _ _ (by rfl) (by rfl) (by rfl) HB7.out.r1 (at_newOu' w7 c) (by omega) HB7.out.le ?_; intro gg cap w8 ho8 hg8 hor8; have hG8 := HB7.out.grown hg8 (fun g e => (HB7.out.r1.lt g e).1); have H8 : Hid _ := HB7.out.app1 ho8 hg8 hor8; obtain ⟨y0, y1, y2, y3⟩ := bx4 hG8.2; have hf8 := frzI hG8.2; clear hG8 ho8 hg8 hor8; try dsimp only) | fail)
        all_goals go_wp2
        all_goals go_roundw
        all_goals first | exact ⟨k + 1, _, _, L ++ [c], M, by go_num, by omega, HN.out.1.symm, HN.out.2.symm, by have h := H8.out; rw [show (L ++ [c]).length = L.length + 1 by simp] at h; exact h⟩ | exact ⟨k + 1, _, _, L ++ [c], M, by go_num, by omega, HN.out.1.symm, HN.out.2.symm, H8.out⟩ | (simp [intOf]; omega)
    · obtain rfl : k = rs.length := by omega
      have e9 : rs.take rs.length = rs := List.take_length
      have HN : Hid (L = kepL d rs ∧ M = tLo d rs) := by
        have h := HI.out
        rw [e9] at h
        exact ⟨h.1, h.2.1⟩
      clear e9
      have HZL : Hid ((∀ x ∈ L, x.partner.size ≤ 9223372036854775807 ∧ x.text.size ≤ 9223372036854775807) ∧ (∀ x ∈ M, x.partner.size ≤ 9223372036854775807 ∧ x.text.size ≤ 9223372036854775807)) := by
        rw [HN.out.1, HN.out.2]
        refine ⟨fun x hx => ?_, fun x hx => ?_⟩
        · have := HZ.out x (List.mem_filter.1 hx).1
          omega
        · have := HZ.out x (List.mem_filter.1 hx).1
          omega
      obtain ⟨x0, x1, x2, x3⟩ := bx4 HI.out.2.2.bx
      have hrowL := (HI.out.2.2.row ⟨by omega, by simp, by omega⟩ ⟨HZL.out.1, fun x hx => by simp at hx, HZL.out.2⟩ 0).li
      go_wp2_with fail
      refine (dueOn_any _ L d _ hrowL (by omega)).mono ?_
      rintro e w9 ⟨rfl, hch, hb9⟩
      obtain ⟨b1, b3, hTR, hv1⟩ := HI.out.2.2.toTR ⟨by omega, by omega⟩ HZL.out hb9 hch
      obtain ⟨C, hC⟩ : ∃ C, C = wr.heap.size := ⟨_, rfl⟩
      rw [← hC] at hTR ⊢
      obtain ⟨w10, hw10⟩ : ∃ w10, w10 = w9 := ⟨_, rfl⟩
      rw [← hw10] at hTR ⊢
      have H9 : Hid (TR X NN C b1 b3 W4 w10 (.slice a1 L.length c1) (.slice none 0 0) (.slice a3 M.length c3) L [] M L.length (dueP d L L.length).length (dueP d L L.length)) := hTR
      have HV1 : Hid (L ≠ [] → ∃ cap, (.slice a1 L.length c1 : Value) = .slice (some ⟨b1, 0, none⟩) L.length cap) := hv1
      clear hTR hv1 hC hw10 hch hb9 hrowL x0 x1 x2 x3
      obtain ⟨n, hn⟩ : ∃ n, n = L.length := ⟨_, rfl⟩
      obtain ⟨DP, hDP⟩ : ∃ DP, DP = dueP d L L.length := ⟨_, rfl⟩
      rw [← hDP] at H9
      have HDP : Hid (DP = dueP d L L.length) := hDP
      clear hDP hn n
      go_wp2_with fail
      go_loopw [] (fun wr => ∃ (ps qs : List Nat) (v2 : Value), DP = ps ++ qs ∧ TR X NN C b1 b3 W4 wr (.slice a1 L.length c1) v2 (.slice a3 M.length c3) (updL d L ps) (seS L ps) M L.length DP.length qs) (fun wr => chLen C wr)
      case atStart => exact ⟨[], DP, _, rfl, by rw [updL_nil]; exact H9.out⟩
      case round =>
        rename World => w11
        obtain ⟨ps, qs, v2, hpq, hT⟩ := hrel
        obtain ⟨r, hch⟩ := hT.ch
        have HT2 : Hid (DP = ps ++ qs ∧ TR X NN C b1 b3 W4 w11 (.slice a1 L.length c1) v2 (.slice a3 M.length c3) (updL d L ps) (seS L ps) M L.length DP.length qs ∧ w11.heap[C]? = some (.chan L.length (chB qs) true DP.length r false)) := ⟨hpq, hT, hch⟩
        clear hpq hT hch
        cases qs with
        | nil =>
          go_upto_region 14 with fail
          refine wp_reg ?_
          show Reg _ _ _ [0, 1] _ _
          refine Reg.shut (z := .int .i64 0) true rfl rfl (by kernel_rfl) HT2.out.2.2 ?_
          refine Reg.value rfl rfl rfl ?_
          refine Reg.done ?_
          go_simp
          have HP : Hid (updL d L ps = tLi d rs ∧ seS L ps = tSe d rs ∧ M = tLo d rs) := by
            have e : ps = dueP d L L.length := by rw [← HDP.out, HT2.out.1, List.append_nil]
            have e1 := seS_end d L L.length (Nat.le_refl _)
            rw [List.take_length] at e1
            refine ⟨?_, ?_, HN.out.2⟩
            · rw [e, updL_end, HN.out.1]; rfl
            · rw [e, e1, HN.out.1, tSe_kep]
          have bE := HLB.out w11 HT2.out.2.1.kp
          obtain ⟨a2, c2, hv2⟩ : ∃ a2 c2, v2 = .slice a2 (seS L ps).length c2 := by
            rcases HT2.out.2.1.r2.2 with ⟨rfl, h0⟩ | ⟨g, cap, cur, rfl, _⟩
            · exact ⟨none, 0, by rw [h0]⟩
            · exact ⟨_, _, rfl⟩
          subst hv2
          obtain ⟨x0, x1, x2, x3⟩ := bx4 HT2.out.2.1.bx
          have hRe := HK.out w11 bE
          obtain ⟨r0, r1, r2, r3⟩ := bx4 hRe
          have hfR : ∀ o, w11.frozen? ⟨R, o, none⟩ = false := fun o => by simp [World.frozen?, hRe]
          have HEE : Hid (Below w.heap.size w w11 ∧ w11.heap[R]? = some (.cells #[.slice none 0 0, .slice none 0 0, .slice none 0 0, .int .i64 0] 30)) := ⟨HB.out.trans (bE.mono HB.out.size), hRe⟩
          clear hRe bE
          go_wp2
          obtain ⟨f0, f1, f2, f3⟩ := bx4 (st4 (y0 := .slice a1 L.length c1) (y1 := .slice a2 (seS L ps).length c2) (y2 := .slice a3 M.length c3) (y3 := .int .i64 0) HEE.out.2)
          refine bodyPost_ret (v := .agg #[.slice a1 L.length c1, .slice a2 (seS L ps).length c2, .slice a3 M.length c3, .int .i64 0]) (by simp [results, Try.results16, go_sem, f0, f1, f2, f3]) rfl ?_
          rw [HE.out, ← HP.out.1, ← HP.out.2.1, ← HP.out.2.2]
          have hlP : (seS L ps).length ≤ 1000 := by
            have h := (tckO_len rs d).2.1
            rw [HE.out] at h
            rw [HP.out.2.1]
            have h' : (tSe d rs).length ≤ rs.length := h
            omega
          obtain ⟨b2, g2, l2⟩ := LSe.of_owns HT2.out.2.1.r2 (by omega) (fun i g hi => by
            have hm := List.mem_of_getElem? hi
            rw [HP.out.2.1] at hm
            simp only [tSe, List.mem_map] at hm
            obtain ⟨y, hy, rfl⟩ := hm
            have := HZ.out y (List.mem_filter.1 hy).1
            simp only [senO]
            omega)
          have hXR := H4.out.2.1
          have hxN := HT2.out.2.1.xN
          have n1 := HT2.out.2.1.n1
          have n3 := HT2.out.2.1.n3
          have hwN : w.heap.size ≤ NN := by have := HB.out.size; have := H4.out.2.2; omega
          exact ⟨_, _, _, b1, b2, b3, rfl, by omega, by omega, by omega, ⟨(((HT2.out.2.1.l1.setR (by omega) 0 _).setR (by omega) 1 _).setR (by omega) 2 _).setR (by omega) 3 _, (((l2.of_block fun _ => set_other _ _ _ _ _ (by omega)).of_block fun _ => set_other _ _ _ _ _ (by omega)).of_block fun _ => set_other _ _ _ _ _ (by omega)).of_block fun _ => set_other _ _ _ _ _ (by omega), (((HT2.out.2.1.l3.setR (by omega) 0 _).setR (by omega) 1 _).setR (by omega) 2 _).setR (by omega) 3 _, HT2.out.2.1.ne⟩, (((HEE.out.1.setCell hge _).setCell hge _).setCell hge _).setCell hge _⟩
        | cons p qs =>
          obtain ⟨kg, ke, ks⟩ := chB_cons p qs
          have hmem : p ∈ DP := by rw [HT2.out.1]; simp
          rw [HDP.out] at hmem
          obtain ⟨hpl, hpa⟩ := dueP_mem.1 hmem
          have hcL := List.getElem?_eq_getElem hpl
          obtain ⟨c, hc⟩ : ∃ c, c = L[p] := ⟨_, rfl⟩
          rw [← hc] at hcL
          have hsn : sntB d c = true := by rw [hcL] at hpa; simpa using hpa
          have hnp : p ∉ ps := by
            have hnd := dueP_nodup d L L.length
            rw [← HDP.out, HT2.out.1, List.nodup_append] at hnd
            exact fun hm => hnd.2.2 p hm p (by simp) rfl
          have hcm : c ∈ rs := by
            have := List.mem_of_getElem? hcL
            rw [HN.out.1] at this
            exact (List.mem_filter.1 this).1
          have HCO : Hid (OuOk c ∧ (c.partner.size ≤ 1048576 ∧ c.text.size ≤ 1048576)) := ⟨HRL.out.ok c hcm, HZ.out c hcm⟩
          have hut : (updL d L ps)[p]? = some c := by rw [updL_get, hcL]; simp [hnp]
          obtain ⟨cp, hv1⟩ := HV1.out (fun e => by rw [e] at hpl; simp at hpl)
          simp only [Value.slice.injEq, true_and] at hv1
          obtain ⟨rfl, rfl⟩ := hv1
          obtain ⟨a2, c2, hv2⟩ : ∃ a2 c2, v2 = .slice a2 (seS L ps).length c2 := by
            rcases HT2.out.2.1.r2.2 with ⟨rfl, h0⟩ | ⟨g, cap, cur, rfl, _⟩
            · exact ⟨none, 0, by rw [h0]⟩
            · exact ⟨_, _, rfl⟩
          subst hv2
          have HST : Hid (updL d L (ps ++ [p]) = (updL d L ps).set p (trdO d c) ∧ seS L (ps ++ [p]) = seS L ps ++ [senO c] ∧ DP = (ps ++ [p]) ++ qs) := ⟨(updL_step d L ps p c hcL).symm, seS_app L ps p c hcL, by rw [HT2.out.1]; simp⟩
          have hrcv := HT2.out.2.1.recv HT2.out.2.2
          obtain ⟨W5, hW5⟩ : ∃ W5, w11.setChan C L.length (chB qs) true DP.length (r + 1) false = W5 := ⟨_, rfl⟩
          rw [hW5] at hrcv
          have H5 : Hid (TR X NN C b1 b3 W4 W5 (.slice (some ⟨b1, 0, none⟩) L.length c1) (.slice a2 (seS L ps).length c2) (.slice a3 M.length c3) (updL d L ps) (seS L ps) M L.length DP.length qs) := hrcv
          have hul : (updL d L ps).length = L.length := updL_len d L ps
          have hpl' : (p : Int) < (L.length : Int) := by omega
          have HPU : Hid (p < (updL d L ps).length) := by rw [hul]; exact hpl
          have HTZ : Hid ((trdO d c).partner.size ≤ 9223372036854775807 ∧ (trdO d c).text.size ≤ 9223372036854775807) := by have h := HCO.out.2; exact ⟨by show c.partner.size ≤ _; omega, by show c.text.size ≤ _; omega⟩
          have hsl : (seS L ps).length ≤ 1000 := by
            have h1 : (seS L ps).length ≤ ps.length := List.length_filterMap_le _ _
            have h2 : ps.length ≤ DP.length := by rw [HT2.out.1]; simp
            have h3 := dueP_len d L L.length
            rw [← HDP.out] at h3
            omega
          clear hmem hpa hc hsn hnp hcm hrcv
          go_upto_region 14 with fail
          refine wp_reg ?_
          show Reg _ _ _ [0, 1] _ _
          refine Reg.recv (z := .int .i64 0) true rfl rfl (by kernel_rfl) HT2.out.2.2 ks ?_
          rw [kg, ke, hW5, show got true (Value.int .i64 (p : Int)) true = .tuple #[.int .i64 (p : Int), .bool true] from rfl]
          refine Reg.value rfl rfl rfl ?_
          refine Reg.done ?_
          go_simp
          clear hW5 kg ke ks
          obtain ⟨bq, oq, cq, g, eq1, hq1, hat, _⟩ := H5.out.l1.row.at (k := p) (by omega)
          rw [hut] at hq1
          cases hq1
          simp only [Value.slice.injEq, Option.some.injEq, Addr.mk.injEq, and_true] at eq1
          obtain ⟨⟨e1, e2⟩, -, -⟩ := eq1
          rw [← e1, ← e2, Nat.zero_add] at hat
          clear e1 e2 hut
          obtain ⟨q0, q1, q2, q3, q4⟩ := hat
          obtain ⟨x0, x1, x2, x3⟩ := bx4 H5.out.bx
          obtain ⟨W6, hW6⟩ : ∃ W6, W5.alloc (.cells #[.string c.partner, .int .i64 c.number, .string c.text, .int .i64 c.tries, .int .i64 c.due] 25) = W6 := ⟨_, rfl⟩
          obtain ⟨B, hB⟩ : ∃ B, B = W5.heap.size := ⟨_, rfl⟩
          have ha6 : Below W5.heap.size W5 W6 := by rw [← hW6]; exact (Below.refl _ _).alloc (Nat.le_refl _) _
          have hx6 : W6.heap[B]? = some (.cells #[.string c.partner, .int .i64 c.number, .string c.text, .int .i64 c.tries, .int .i64 c.due] 25) := by rw [← hW6, hB]; exact World.alloc_heap_new _ _
          have HX6 : Hid (∀ W, Below W6.heap.size W6 W → TR X NN C b1 b3 W4 W (.slice (some ⟨b1, 0, none⟩) L.length c1) (.slice a2 (seS L ps).length c2) (.slice a3 M.length c3) (updL d L ps) (seS L ps) M L.length DP.length qs ∧ W.heap[B]? = some (.cells #[.string c.partner, .int .i64 c.number, .string c.text, .int .i64 c.tries, .int .i64 c.due] 25)) := fun W hW => ⟨(H5.out.below ha6).below hW, (hW.block _ (Array.getElem?_eq_some_iff.1 hx6).1).trans hx6⟩
          have hb1B : b1 ≠ B := by
            obtain ⟨xs, hb⟩ := H5.out.l1.blk (fun e => by rw [← hul, e] at hpl; simp at hpl)
            have := (Array.getElem?_eq_some_iff.1 hb).1
            omega
          have hXB : X ≠ B := by have := H5.out.xN; have := H5.out.le; omega
          go_upto_region 17 with fail
          try rw [hW6]
          try rw [← hB]
          clear hW6 ha6 hx6 q0 q1 q2 q3 q4 x0 x1 x2 x3 hB
          obtain ⟨hT6, hB6⟩ := HX6.out W6 (Below.refl _ _)
          obtain ⟨x0, x1, x2, x3⟩ := bx4 hT6.bx
          obtain ⟨q0, q1, q2, q3, q4⟩ := box5 hB6
          clear hT6 hB6
          have hcz : c.partner.size ≤ 1048576 ∧ c.text.size ≤ 1048576 := HCO.out.2
          have hBX : B ≠ X := fun e => hXB e.symm
          have HSL : Hid ((seS L ps).length + 1 ≤ 1000000) := by show _ ≤ _; omega
          have hatS := fun (wb : World) => at_newSe wb (senO c)
          simp only [senO] at hatS
          have HSO : Hid (senO c = SenR.mk c.partner c.number c.text) := rfl
          go_cut [] from 59 to 72 (fun wx => ∃ gg cap, TR X NN C b1 b3 W4 wx (.slice (some ⟨b1, 0, none⟩) L.length c1) (.slice (some ⟨gg, 0, none⟩) ((seS L ps).length + 1) cap) (.slice a3 M.length c3) (updL d L ps) (seS L ps ++ [senO c]) M L.length DP.length qs ∧ wx.heap[B]? = some (.cells #[.string c.partner, .int .i64 c.number, .string c.text, .int .i64 c.tries, .int .i64 c.due] 25))
          case first =>
            clear HZ HK HB HRW HE HDY HRL H4 HLB HI HN HZL HT H1 HDD H9 HV1 HDP HCO HST HTZ HPU hlen h4 h4' hk hpl hpl' hge hsl hul
            refine wp_region_held_drew (S := (fun w' => w'.cell? ⟨B, 0, none⟩ = some (.string c.partner) ∧ w'.cell? ⟨B, 1, none⟩ = some (.int .i64 c.number) ∧ w'.cell? ⟨B, 2, none⟩ = some (.string c.text))) (by kernel_rfl) ⟨q0, q1, q2⟩ (fun hHeld => ?_)
            refine wpAnyH_take (i := 0) (oi := { dst := some 59, op := Op.fieldAddr 30 (Operand.tmp 5) 1, type := 0, pos := "l12_outbox.go:176", after := #[], guard := none }) (v := ?_) rfl (by kernel_rfl) (by kernel_rfl) (by kernel_rfl) (fun _ _ _ h => h) (Or.inl ⟨by rfl, ?_⟩) (by assumption) ?_
            rotate_left 1
            · intro w hSw
              (try dsimp only at hSw)
              go_simp
              try with_reducible rfl
            try simp only [Act.put, List.setIfInBounds_toArray, List.set_cons_zero, List.set_cons_succ]
            refine wpAnyH_take (i := 2) (oi := { dst := some 61, op := Op.fieldAddr 25 (Operand.tmp 9) 0, type := 0, pos := "l12_outbox.go:176", after := #[], guard := none }) (v := ?_) rfl (by kernel_rfl) (by kernel_rfl) (by kernel_rfl) (fun _ _ _ h => h) (Or.inl ⟨by rfl, ?_⟩) (by assumption) ?_
            rotate_left 1
            · intro w hSw
              (try dsimp only at hSw)
              go_simp
              try with_reducible rfl
            try simp only [Act.put, List.setIfInBounds_toArray, List.set_cons_zero, List.set_cons_succ]
            refine wpAnyH_take (i := 3) (oi := { dst := some 62, op := Op.load 9 (Operand.tmp 61), type := 9, pos := "l12_outbox.go:176", after := #[{ on := 2, ground := Ground.data }], guard := none }) (v := ?_) rfl (by kernel_rfl) (by kernel_rfl) (by kernel_rfl) (fun _ _ _ h => h) (Or.inl ⟨by rfl, ?_⟩) (by assumption) ?_
            rotate_left 1
            · intro w hSw
              (try dsimp only at hSw)
              go_simp
              try with_reducible rfl
            try simp only [Act.put, List.setIfInBounds_toArray, List.set_cons_zero, List.set_cons_succ]
            refine wpAnyH_take (i := 5) (oi := { dst := some 64, op := Op.fieldAddr 25 (Operand.tmp 9) 1, type := 0, pos := "l12_outbox.go:176", after := #[], guard := none }) (v := ?_) rfl (by kernel_rfl) (by kernel_rfl) (by kernel_rfl) (fun _ _ _ h => h) (Or.inl ⟨by rfl, ?_⟩) (by assumption) ?_
            rotate_left 1
            · intro w hSw
              (try dsimp only at hSw)
              go_simp
              try with_reducible rfl
            try simp only [Act.put, List.setIfInBounds_toArray, List.set_cons_zero, List.set_cons_succ]
            refine wpAnyH_take (i := 6) (oi := { dst := some 65, op := Op.load 2 (Operand.tmp 64), type := 2, pos := "l12_outbox.go:176", after := #[{ on := 5, ground := Ground.data }], guard := none }) (v := ?_) rfl (by kernel_rfl) (by kernel_rfl) (by kernel_rfl) (fun _ _ _ h => h) (Or.inl ⟨by rfl, ?_⟩) (by assumption) ?_
            rotate_left 1
            · intro w hSw
              (try dsimp only at hSw)
              go_simp
              try with_reducible rfl
            try simp only [Act.put, List.setIfInBounds_toArray, List.set_cons_zero, List.set_cons_succ]
            refine wpAnyH_take (i := 7) (oi := { dst := some 66, op := Op.fieldAddr 25 (Operand.tmp 9) 2, type := 0, pos := "l12_outbox.go:176", after := #[], guard := none }) (v := ?_) rfl (by kernel_rfl) (by kernel_rfl) (by kernel_rfl) (fun _ _ _ h => h) (Or.inl ⟨by rfl, ?_⟩) (by assumption) ?_
            rotate_left 1
            · intro w hSw
              (try dsimp only at hSw)
              go_simp
              try with_reducible rfl
            try simp only [Act.put, List.setIfInBounds_toArray, List.set_cons_zero, List.set_cons_succ]
            refine wpAnyH_take (i := 8) (oi := { dst := some 67, op := Op.load 9 (Operand.tmp 66), type := 9, pos := "l12_outbox.go:176", after := #[{ on := 7, ground := Ground.data }], guard := none }) (v := ?_) rfl (by kernel_rfl) (by kernel_rfl) (by kernel_rfl) (fun _ _ _ h => h) (Or.inl ⟨by rfl, ?_⟩) (by assumption) ?_
            rotate_left 1
            · intro w hSw
              (try dsimp only at hSw)
              go_simp
              try with_reducible rfl
            try simp only [Act.put, List.setIfInBounds_toArray, List.set_cons_zero, List.set_cons_succ]
            refine wpAnyH_ready (rs := [1, 4]) (by kernel_rfl) (by simp) ?_
            refine AllReadyH.cons (o := { dst := some 60, op := Op.load 28 (Operand.tmp 59), type := 28, pos := "l12_outbox.go:176", after := #[{ on := 0, ground := Ground.data }], guard := none }) rfl (fun K hK => ?_) ?_
            · skip
              go_simp
              refine hK.out _ _ ?_ (fun hHeld => ?_)
              · try dsimp only
                assumption
              clear hK K
              try simp only [Act.put, List.setIfInBounds_toArray, List.set_cons_zero, List.set_cons_succ]
              refine wpAnyH_ready (rs := [4]) (by kernel_rfl) (by simp) ?_
              refine AllReadyH.cons (o := { dst := some 63, op := Op.call { callee := Callee.value (Operand.func 42), args := #[Operand.tmp 62], argTypes := #[9] }, type := 9, pos := "l12_outbox.go:176", after := #[{ on := 3, ground := Ground.data }], guard := none }) rfl (fun K hK => ?_) AllReadyH.nil
              go_simp
              go_at_call_of 42 (Value.string c.partner)
              refine (clone_any _ _ (by omega)).mono ?_
              rintro e wa ⟨rfl, hba'⟩
              have hba : Below W6.heap.size W6 wa := (by first | exact hba' | exact undrewT hba')
              have HA : Hid _ := HX6.out wa hba
              obtain ⟨s0, s1, s2, s3⟩ := bx4 HA.out.1.bx
              obtain ⟨m0, m1, m2, m3, m4⟩ := box5 HA.out.2
              clear hba'
              go_wp2_with fail
              refine hK.out _ _ ?_ (fun hHeld => ?_)
              · try dsimp only
                exact ⟨m0, m1, m2⟩
              clear hK K
              try simp only [Act.put, List.setIfInBounds_toArray, List.set_cons_zero, List.set_cons_succ]
              refine wpAnyH_ready (rs := [9]) (by kernel_rfl) (by simp) ?_
              refine AllReadyH.cons (o := { dst := some 68, op := Op.call { callee := Callee.value (Operand.func 42), args := #[Operand.tmp 67], argTypes := #[9] }, type := 9, pos := "l12_outbox.go:176", after := #[{ on := 8, ground := Ground.data }, { on := 4, ground := Ground.chain }], guard := none }) rfl (fun K hK => ?_) AllReadyH.nil
              go_simp
              go_at_call_of 42 (Value.string c.text)
              refine (clone_any _ _ (by omega)).mono ?_
              rintro e wb ⟨rfl, hbb⟩
              have hbb' : Below W6.heap.size W6 wb := hba.trans (hbb.mono hba.size)
              have HA2 : Hid _ := HX6.out wb hbb'
              have HB2 : Hid _ := HX6.out (wb.alloc (.cells #[.string c.partner, .int .i64 c.number, .string c.text] 66)) (hbb'.alloc hbb'.size _)
              obtain ⟨s0, s1, s2, s3⟩ := bx4 HA2.out.1.bx
              obtain ⟨t0, t1, t2, t3⟩ := bx4 HB2.out.1.bx
              obtain ⟨m0, m1, m2, m3, m4⟩ := box5 HA2.out.2
              obtain ⟨n0, n1, n2, n3, n4⟩ := box5 HB2.out.2
              clear hbb
              go_wp2_with fail
              refine hK.out _ _ ?_ (fun hHeld => ?_)
              · try dsimp only
                exact ⟨m0, m1, m2⟩
              clear hK K
              try simp only [Act.put, List.setIfInBounds_toArray, List.set_cons_zero, List.set_cons_succ]
              refine wpAnyH_take (i := 10) (oi := { dst := some 69, op := Op.build 66 #[(0, Operand.tmp 63), (1, Operand.tmp 65), (2, Operand.tmp 68)], type := 66, pos := "l12_outbox.go:176", after := #[{ on := 4, ground := Ground.data }, { on := 6, ground := Ground.data }, { on := 9, ground := Ground.data }], guard := none }) (v := ?_) rfl (by kernel_rfl) (by kernel_rfl) (by kernel_rfl) (fun _ _ _ h => h) (Or.inl ⟨by rfl, ?_⟩) (by assumption) ?_
              rotate_left 1
              · intro w hSw
                (try dsimp only at hSw)
                go_simp
                try with_reducible rfl
              try simp only [Act.put, List.setIfInBounds_toArray, List.set_cons_zero, List.set_cons_succ]
              refine wpAnyH_ready (rs := [11]) (by kernel_rfl) (by simp) ?_
              refine AllReadyH.cons (o := { dst := some 70, op := Op.buildSlice 28 1 #[(0, Operand.tmp 69)], type := 28, pos := "l12_outbox.go:176", after := #[{ on := 10, ground := Ground.data }], guard := none }) rfl (fun K hK => ?_) AllReadyH.nil
              go_simp
              refine hK.out _ _ ?_ (fun hHeld => ?_)
              · try dsimp only
                exact ⟨n0, n1, n2⟩
              clear hK K
              try simp only [Act.put, List.setIfInBounds_toArray, List.set_cons_zero, List.set_cons_succ]
              refine wpAnyH_ready (rs := [12]) (by kernel_rfl) (by simp) ?_
              refine AllReadyH.cons (o := { dst := some 71, op := Op.call { callee := Callee.builtin Builtin.append, args := #[Operand.tmp 60, Operand.tmp 70], argTypes := #[28, 28] }, type := 28, pos := "l12_outbox.go:176", after := #[{ on := 1, ground := Ground.data }, { on := 11, ground := Ground.data }, { on := 9, ground := Ground.chain }], guard := none }) rfl (fun K hK => ?_) AllReadyH.nil
              refine step_appSe (by rfl) _ _ (by rfl) (by rfl) (by rfl) HB2.out.1.r2 (hatS wb) HSL.out HB2.out.1.le ?_
              intro gg cap w8 ho8 hg8 hor8
              have hG8 := HB2.out.1.grown hg8
              have hB8 := (hg8.block B (Array.getElem?_eq_some_iff.1 HB2.out.2).1 (fun e => own_apart HB2.out.1.r2 HB2.out.2 (by decide) e.symm)).trans HB2.out.2
              have H8 : Hid _ := And.intro (HB2.out.1.app2 ho8 hg8) hB8
              obtain ⟨y0, y1, y2, y3⟩ := bx4 hG8
              have hf8 := frzI hG8
              obtain ⟨g0, g1, g2, g3, g4⟩ := box5 hB8
              clear hG8 ho8 hg8 hor8 hB8
              try dsimp only
              refine hK.out _ _ ?_ (fun hHeld => ?_)
              · try dsimp only
                exact ⟨g0, g1, g2⟩
              clear hK K
              try simp only [Act.put, List.setIfInBounds_toArray, List.set_cons_zero, List.set_cons_succ]
              refine wpAnyH_take (i := 13) (oi := { dst := some 72, op := Op.fieldAddr 30 (Operand.tmp 5) 1, type := 0, pos := "l12_outbox.go:176", after := #[{ on := 0, ground := Ground.phase }, { on := 1, ground := Ground.phase }, { on := 2, ground := Ground.phase }, { on := 3, ground := Ground.phase }, { on := 4, ground := Ground.phase }, { on := 5, ground := Ground.phase }, { on := 6, ground := Ground.phase }, { on := 7, ground := Ground.phase }, { on := 8, ground := Ground.phase }, { on := 9, ground := Ground.phase }, { on := 10, ground := Ground.phase }, { on := 11, ground := Ground.phase }, { on := 12, ground := Ground.phase }], guard := none }) (v := ?_) rfl (by kernel_rfl) (by kernel_rfl) (by kernel_rfl) (fun _ _ _ h => h) (Or.inl ⟨by rfl, ?_⟩) (by assumption) ?_
              rotate_left 1
              · intro w hSw
                (try dsimp only at hSw)
                go_simp
                try with_reducible rfl
              try simp only [Act.put, List.setIfInBounds_toArray, List.set_cons_zero, List.set_cons_succ]
              refine wpAnyH_ready (rs := [14]) (by kernel_rfl) (by simp) ?_
              refine AllReadyH.cons (o := { dst := none, op := Op.store 28 (Operand.tmp 72) (Operand.tmp 71), type := 0, pos := "l12_outbox.go:176", after := #[{ on := 13, ground := Ground.data }, { on := 12, ground := Ground.data }, { on := 12, ground := Ground.chain }, { on := 0, ground := Ground.phase }, { on := 1, ground := Ground.phase }, { on := 2, ground := Ground.phase }, { on := 3, ground := Ground.phase }, { on := 4, ground := Ground.phase }, { on := 5, ground := Ground.phase }, { on := 6, ground := Ground.phase }, { on := 7, ground := Ground.phase }, { on := 8, ground := Ground.phase }, { on := 9, ground := Ground.phase }, { on := 10, ground := Ground.phase }, { on := 11, ground := Ground.phase }, { on := 12, ground := Ground.phase }], guard := none }) rfl (fun K hK => ?_) AllReadyH.nil
              go_simp
              refine hK.out _ _ ?_ (fun hHeld => ?_)
              · try dsimp only
                exact ⟨(box5 ((set_other _ _ _ _ _ (fun e => hXB e.symm)).trans H8.out.2)).1, (box5 ((set_other _ _ _ _ _ (fun e => hXB e.symm)).trans H8.out.2)).2.1, (box5 ((set_other _ _ _ _ _ (fun e => hXB e.symm)).trans H8.out.2)).2.2.1⟩
              clear hK K
              try simp only [Act.put, List.setIfInBounds_toArray, List.set_cons_zero, List.set_cons_succ]
              refine wpAnyH_done (by kernel_rfl) ?_ _
              go_wp2_with fail
              go_meet
              refine ⟨gg, cap, ?_, ?_⟩
              all_goals first | (have h := H8.out.1; rw [show (seS L ps ++ [SenR.mk c.partner c.number c.text]).length = (seS L ps).length + 1 by simp] at h; exact h) | exact (set_other _ _ _ _ _ (fun e => hXB e.symm)).trans H8.out.2
            refine AllReadyH.cons (o := { dst := some 63, op := Op.call { callee := Callee.value (Operand.func 42), args := #[Operand.tmp 62], argTypes := #[9] }, type := 9, pos := "l12_outbox.go:176", after := #[{ on := 3, ground := Ground.data }], guard := none }) rfl (fun K hK => ?_) AllReadyH.nil
            go_simp
            go_at_call_of 42 (Value.string c.partner)
            refine (clone_any _ _ (by omega)).mono ?_
            rintro e wa ⟨rfl, hba'⟩
            have hba : Below W6.heap.size W6 wa := (by first | exact hba' | exact undrewT hba')
            have HA : Hid _ := HX6.out wa hba
            obtain ⟨s0, s1, s2, s3⟩ := bx4 HA.out.1.bx
            obtain ⟨m0, m1, m2, m3, m4⟩ := box5 HA.out.2
            clear hba'
            go_wp2_with fail
            refine hK.out _ _ ?_ (fun hHeld => ?_)
            · try dsimp only
              exact ⟨m0, m1, m2⟩
            clear hK K
            try simp only [Act.put, List.setIfInBounds_toArray, List.set_cons_zero, List.set_cons_succ]
            refine wpAnyH_ready (rs := [1, 9]) (by kernel_rfl) (by simp) ?_
            refine AllReadyH.cons (o := { dst := some 60, op := Op.load 28 (Operand.tmp 59), type := 28, pos := "l12_outbox.go:176", after := #[{ on := 0, ground := Ground.data }], guard := none }) rfl (fun K hK => ?_) ?_
            · skip
              go_simp
              refine hK.out _ _ ?_ (fun hHeld => ?_)
              · try dsimp only
                assumption
              clear hK K
              try simp only [Act.put, List.setIfInBounds_toArray, List.set_cons_zero, List.set_cons_succ]
              refine wpAnyH_ready (rs := [9]) (by kernel_rfl) (by simp) ?_
              refine AllReadyH.cons (o := { dst := some 68, op := Op.call { callee := Callee.value (Operand.func 42), args := #[Operand.tmp 67], argTypes := #[9] }, type := 9, pos := "l12_outbox.go:176", after := #[{ on := 8, ground := Ground.data }, { on := 4, ground := Ground.chain }], guard := none }) rfl (fun K hK => ?_) AllReadyH.nil
              go_simp
              go_at_call_of 42 (Value.string c.text)
              refine (clone_any _ _ (by omega)).mono ?_
              rintro e wb ⟨rfl, hbb⟩
              have hbb' : Below W6.heap.size W6 wb := hba.trans (hbb.mono hba.size)
              have HA2 : Hid _ := HX6.out wb hbb'
              have HB2 : Hid _ := HX6.out (wb.alloc (.cells #[.string c.partner, .int .i64 c.number, .string c.text] 66)) (hbb'.alloc hbb'.size _)
              obtain ⟨s0, s1, s2, s3⟩ := bx4 HA2.out.1.bx
              obtain ⟨t0, t1, t2, t3⟩ := bx4 HB2.out.1.bx
              obtain ⟨m0, m1, m2, m3, m4⟩ := box5 HA2.out.2
              obtain ⟨n0, n1, n2, n3, n4⟩ := box5 HB2.out.2
              clear hbb
              go_wp2_with fail
              refine hK.out _ _ ?_ (fun hHeld => ?_)
              · try dsimp only
                exact ⟨m0, m1, m2⟩
              clear hK K
              try simp only [Act.put, List.setIfInBounds_toArray, List.set_cons_zero, List.set_cons_succ]
              refine wpAnyH_take (i := 10) (oi := { dst := some 69, op := Op.build 66 #[(0, Operand.tmp 63), (1, Operand.tmp 65), (2, Operand.tmp 68)], type := 66, pos := "l12_outbox.go:176", after := #[{ on := 4, ground := Ground.data }, { on := 6, ground := Ground.data }, { on := 9, ground := Ground.data }], guard := none }) (v := ?_) rfl (by kernel_rfl) (by kernel_rfl) (by kernel_rfl) (fun _ _ _ h => h) (Or.inl ⟨by rfl, ?_⟩) (by assumption) ?_
              rotate_left 1
              · intro w hSw
                (try dsimp only at hSw)
                go_simp
                try with_reducible rfl
              try simp only [Act.put, List.setIfInBounds_toArray, List.set_cons_zero, List.set_cons_succ]
              refine wpAnyH_ready (rs := [11]) (by kernel_rfl) (by simp) ?_
              refine AllReadyH.cons (o := { dst := some 70, op := Op.buildSlice 28 1 #[(0, Operand.tmp 69)], type := 28, pos := "l12_outbox.go:176", after := #[{ on := 10, ground := Ground.data }], guard := none }) rfl (fun K hK => ?_) AllReadyH.nil
              go_simp
              refine hK.out _ _ ?_ (fun hHeld => ?_)
              · try dsimp only
                exact ⟨n0, n1, n2⟩
              clear hK K
              try simp only [Act.put, List.setIfInBounds_toArray, List.set_cons_zero, List.set_cons_succ]
              refine wpAnyH_ready (rs := [12]) (by kernel_rfl) (by simp) ?_
              refine AllReadyH.cons (o := { dst := some 71, op := Op.call { callee := Callee.builtin Builtin.append, args := #[Operand.tmp 60, Operand.tmp 70], argTypes := #[28, 28] }, type := 28, pos := "l12_outbox.go:176", after := #[{ on := 1, ground := Ground.data }, { on := 11, ground := Ground.data }, { on := 9, ground := Ground.chain }], guard := none }) rfl (fun K hK => ?_) AllReadyH.nil
              refine step_appSe (by rfl) _ _ (by rfl) (by rfl) (by rfl) HB2.out.1.r2 (hatS wb) HSL.out HB2.out.1.le ?_
              intro gg cap w8 ho8 hg8 hor8
              have hG8 := HB2.out.1.grown hg8
              have hB8 := (hg8.block B (Array.getElem?_eq_some_iff.1 HB2.out.2).1 (fun e => own_apart HB2.out.1.r2 HB2.out.2 (by decide) e.symm)).trans HB2.out.2
              have H8 : Hid _ := And.intro (HB2.out.1.app2 ho8 hg8) hB8
              obtain ⟨y0, y1, y2, y3⟩ := bx4 hG8
              have hf8 := frzI hG8
              obtain ⟨g0, g1, g2, g3, g4⟩ := box5 hB8
              clear hG8 ho8 hg8 hor8 hB8
              try dsimp only
              refine hK.out _ _ ?_ (fun hHeld => ?_)
              · try dsimp only
                exact ⟨g0, g1, g2⟩
              clear hK K
              try simp only [Act.put, List.setIfInBounds_toArray, List.set_cons_zero, List.set_cons_succ]
              refine wpAnyH_take (i := 13) (oi := { dst := some 72, op := Op.fieldAddr 30 (Operand.tmp 5) 1, type := 0, pos := "l12_outbox.go:176", after := #[{ on := 0, ground := Ground.phase }, { on := 1, ground := Ground.phase }, { on := 2, ground := Ground.phase }, { on := 3, ground := Ground.phase }, { on := 4, ground := Ground.phase }, { on := 5, ground := Ground.phase }, { on := 6, ground := Ground.phase }, { on := 7, ground := Ground.phase }, { on := 8, ground := Ground.phase }, { on := 9, ground := Ground.phase }, { on := 10, ground := Ground.phase }, { on := 11, ground := Ground.phase }, { on := 12, ground := Ground.phase }], guard := none }) (v := ?_) rfl (by kernel_rfl) (by kernel_rfl) (by kernel_rfl) (fun _ _ _ h => h) (Or.inl ⟨by rfl, ?_⟩) (by assumption) ?_
              rotate_left 1
              · intro w hSw
                (try dsimp only at hSw)
                go_simp
                try with_reducible rfl
              try simp only [Act.put, List.setIfInBounds_toArray, List.set_cons_zero, List.set_cons_succ]
              refine wpAnyH_ready (rs := [14]) (by kernel_rfl) (by simp) ?_
              refine AllReadyH.cons (o := { dst := none, op := Op.store 28 (Operand.tmp 72) (Operand.tmp 71), type := 0, pos := "l12_outbox.go:176", after := #[{ on := 13, ground := Ground.data }, { on := 12, ground := Ground.data }, { on := 12, ground := Ground.chain }, { on := 0, ground := Ground.phase }, { on := 1, ground := Ground.phase }, { on := 2, ground := Ground.phase }, { on := 3, ground := Ground.phase }, { on := 4, ground := Ground.phase }, { on := 5, ground := Ground.phase }, { on := 6, ground := Ground.phase }, { on := 7, ground := Ground.phase }, { on := 8, ground := Ground.phase }, { on := 9, ground := Ground.phase }, { on := 10, ground := Ground.phase }, { on := 11, ground := Ground.phase }, { on := 12, ground := Ground.phase }], guard := none }) rfl (fun K hK => ?_) AllReadyH.nil
              go_simp
              refine hK.out _ _ ?_ (fun hHeld => ?_)
              · try dsimp only
                exact ⟨(box5 ((set_other _ _ _ _ _ (fun e => hXB e.symm)).trans H8.out.2)).1, (box5 ((set_other _ _ _ _ _ (fun e => hXB e.symm)).trans H8.out.2)).2.1, (box5 ((set_other _ _ _ _ _ (fun e => hXB e.symm)).trans H8.out.2)).2.2.1⟩
              clear hK K
              try simp only [Act.put, List.setIfInBounds_toArray, List.set_cons_zero, List.set_cons_succ]
              refine wpAnyH_done (by kernel_rfl) ?_ _
              go_wp2_with fail
              go_meet
              refine ⟨gg, cap, ?_, ?_⟩
              all_goals first | (have h := H8.out.1; rw [show (seS L ps ++ [SenR.mk c.partner c.number c.text]).length = (seS L ps).length + 1 by simp] at h; exact h) | exact (set_other _ _ _ _ _ (fun e => hXB e.symm)).trans H8.out.2
            refine AllReadyH.cons (o := { dst := some 68, op := Op.call { callee := Callee.value (Operand.func 42), args := #[Operand.tmp 67], argTypes := #[9] }, type := 9, pos := "l12_outbox.go:176", after := #[{ on := 8, ground := Ground.data }, { on := 4, ground := Ground.chain }], guard := none }) rfl (fun K hK => ?_) AllReadyH.nil
            go_simp
            go_at_call_of 42 (Value.string c.text)
            refine (clone_any _ _ (by omega)).mono ?_
            rintro e wb ⟨rfl, hbb⟩
            have hbb' : Below W6.heap.size W6 wb := hba.trans (hbb.mono hba.size)
            have HA2 : Hid _ := HX6.out wb hbb'
            have HB2 : Hid _ := HX6.out (wb.alloc (.cells #[.string c.partner, .int .i64 c.number, .string c.text] 66)) (hbb'.alloc hbb'.size _)
            obtain ⟨s0, s1, s2, s3⟩ := bx4 HA2.out.1.bx
            obtain ⟨t0, t1, t2, t3⟩ := bx4 HB2.out.1.bx
            obtain ⟨m0, m1, m2, m3, m4⟩ := box5 HA2.out.2
            obtain ⟨n0, n1, n2, n3, n4⟩ := box5 HB2.out.2
            clear hbb
            go_wp2_with fail
            refine hK.out _ _ ?_ (fun hHeld => ?_)
            · try dsimp only
              exact ⟨m0, m1, m2⟩
            clear hK K
            try simp only [Act.put, List.setIfInBounds_toArray, List.set_cons_zero, List.set_cons_succ]
            refine wpAnyH_take (i := 10) (oi := { dst := some 69, op := Op.build 66 #[(0, Operand.tmp 63), (1, Operand.tmp 65), (2, Operand.tmp 68)], type := 66, pos := "l12_outbox.go:176", after := #[{ on := 4, ground := Ground.data }, { on := 6, ground := Ground.data }, { on := 9, ground := Ground.data }], guard := none }) (v := ?_) rfl (by kernel_rfl) (by kernel_rfl) (by kernel_rfl) (fun _ _ _ h => h) (Or.inl ⟨by rfl, ?_⟩) (by assumption) ?_
            rotate_left 1
            · intro w hSw
              (try dsimp only at hSw)
              go_simp
              try with_reducible rfl
            try simp only [Act.put, List.setIfInBounds_toArray, List.set_cons_zero, List.set_cons_succ]
            refine wpAnyH_ready (rs := [1, 11]) (by kernel_rfl) (by simp) ?_
            refine AllReadyH.cons (o := { dst := some 60, op := Op.load 28 (Operand.tmp 59), type := 28, pos := "l12_outbox.go:176", after := #[{ on := 0, ground := Ground.data }], guard := none }) rfl (fun K hK => ?_) ?_
            · skip
              go_simp
              refine hK.out _ _ ?_ (fun hHeld => ?_)
              · try dsimp only
                assumption
              clear hK K
              try simp only [Act.put, List.setIfInBounds_toArray, List.set_cons_zero, List.set_cons_succ]
              refine wpAnyH_ready (rs := [11]) (by kernel_rfl) (by simp) ?_
              refine AllReadyH.cons (o := { dst := some 70, op := Op.buildSlice 28 1 #[(0, Operand.tmp 69)], type := 28, pos := "l12_outbox.go:176", after := #[{ on := 10, ground := Ground.data }], guard := none }) rfl (fun K hK => ?_) AllReadyH.nil
              go_simp
              refine hK.out _ _ ?_ (fun hHeld => ?_)
              · try dsimp only
                exact ⟨n0, n1, n2⟩
              clear hK K
              try simp only [Act.put, List.setIfInBounds_toArray, List.set_cons_zero, List.set_cons_succ]
              refine wpAnyH_ready (rs := [12]) (by kernel_rfl) (by simp) ?_
              refine AllReadyH.cons (o := { dst := some 71, op := Op.call { callee := Callee.builtin Builtin.append, args := #[Operand.tmp 60, Operand.tmp 70], argTypes := #[28, 28] }, type := 28, pos := "l12_outbox.go:176", after := #[{ on := 1, ground := Ground.data }, { on := 11, ground := Ground.data }, { on := 9, ground := Ground.chain }], guard := none }) rfl (fun K hK => ?_) AllReadyH.nil
              refine step_appSe (by rfl) _ _ (by rfl) (by rfl) (by rfl) HB2.out.1.r2 (hatS wb) HSL.out HB2.out.1.le ?_
              intro gg cap w8 ho8 hg8 hor8
              have hG8 := HB2.out.1.grown hg8
              have hB8 := (hg8.block B (Array.getElem?_eq_some_iff.1 HB2.out.2).1 (fun e => own_apart HB2.out.1.r2 HB2.out.2 (by decide) e.symm)).trans HB2.out.2
              have H8 : Hid _ := And.intro (HB2.out.1.app2 ho8 hg8) hB8
              obtain ⟨y0, y1, y2, y3⟩ := bx4 hG8
              have hf8 := frzI hG8
              obtain ⟨g0, g1, g2, g3, g4⟩ := box5 hB8
              clear hG8 ho8 hg8 hor8 hB8
              try dsimp only
              refine hK.out _ _ ?_ (fun hHeld => ?_)
              · try dsimp only
                exact ⟨g0, g1, g2⟩
              clear hK K
              try simp only [Act.put, List.setIfInBounds_toArray, List.set_cons_zero, List.set_cons_succ]
              refine wpAnyH_take (i := 13) (oi := { dst := some 72, op := Op.fieldAddr 30 (Operand.tmp 5) 1, type := 0, pos := "l12_outbox.go:176", after := #[{ on := 0, ground := Ground.phase }, { on := 1, ground := Ground.phase }, { on := 2, ground := Ground.phase }, { on := 3, ground := Ground.phase }, { on := 4, ground := Ground.phase }, { on := 5, ground := Ground.phase }, { on := 6, ground := Ground.phase }, { on := 7, ground := Ground.phase }, { on := 8, ground := Ground.phase }, { on := 9, ground := Ground.phase }, { on := 10, ground := Ground.phase }, { on := 11, ground := Ground.phase }, { on := 12, ground := Ground.phase }], guard := none }) (v := ?_) rfl (by kernel_rfl) (by kernel_rfl) (by kernel_rfl) (fun _ _ _ h => h) (Or.inl ⟨by rfl, ?_⟩) (by assumption) ?_
              rotate_left 1
              · intro w hSw
                (try dsimp only at hSw)
                go_simp
                try with_reducible rfl
              try simp only [Act.put, List.setIfInBounds_toArray, List.set_cons_zero, List.set_cons_succ]
              refine wpAnyH_ready (rs := [14]) (by kernel_rfl) (by simp) ?_
              refine AllReadyH.cons (o := { dst := none, op := Op.store 28 (Operand.tmp 72) (Operand.tmp 71), type := 0, pos := "l12_outbox.go:176", after := #[{ on := 13, ground := Ground.data }, { on := 12, ground := Ground.data }, { on := 12, ground := Ground.chain }, { on := 0, ground := Ground.phase }, { on := 1, ground := Ground.phase }, { on := 2, ground := Ground.phase }, { on := 3, ground := Ground.phase }, { on := 4, ground := Ground.phase }, { on := 5, ground := Ground.phase }, { on := 6, ground := Ground.phase }, { on := 7, ground := Ground.phase }, { on := 8, ground := Ground.phase }, { on := 9, ground := Ground.phase }, { on := 10, ground := Ground.phase }, { on := 11, ground := Ground.phase }, { on := 12, ground := Ground.phase }], guard := none }) rfl (fun K hK => ?_) AllReadyH.nil
              go_simp
              refine hK.out _ _ ?_ (fun hHeld => ?_)
              · try dsimp only
                exact ⟨(box5 ((set_other _ _ _ _ _ (fun e => hXB e.symm)).trans H8.out.2)).1, (box5 ((set_other _ _ _ _ _ (fun e => hXB e.symm)).trans H8.out.2)).2.1, (box5 ((set_other _ _ _ _ _ (fun e => hXB e.symm)).trans H8.out.2)).2.2.1⟩
              clear hK K
              try simp only [Act.put, List.setIfInBounds_toArray, List.set_cons_zero, List.set_cons_succ]
              refine wpAnyH_done (by kernel_rfl) ?_ _
              go_wp2_with fail
              go_meet
              refine ⟨gg, cap, ?_, ?_⟩
              all_goals first | (have h := H8.out.1; rw [show (seS L ps ++ [SenR.mk c.partner c.number c.text]).length = (seS L ps).length + 1 by simp] at h; exact h) | exact (set_other _ _ _ _ _ (fun e => hXB e.symm)).trans H8.out.2
            refine AllReadyH.cons (o := { dst := some 70, op := Op.buildSlice 28 1 #[(0, Operand.tmp 69)], type := 28, pos := "l12_outbox.go:176", after := #[{ on := 10, ground := Ground.data }], guard := none }) rfl (fun K hK => ?_) AllReadyH.nil
            go_simp
            refine hK.out _ _ ?_ (fun hHeld => ?_)
            · try dsimp only
              exact ⟨n0, n1, n2⟩
            clear hK K
            try simp only [Act.put, List.setIfInBounds_toArray, List.set_cons_zero, List.set_cons_succ]
            refine wpAnyH_ready (rs := [1]) (by kernel_rfl) (by simp) ?_
            refine AllReadyH.cons (o := { dst := some 60, op := Op.load 28 (Operand.tmp 59), type := 28, pos := "l12_outbox.go:176", after := #[{ on := 0, ground := Ground.data }], guard := none }) rfl (fun K hK => ?_) AllReadyH.nil
            go_simp
            refine hK.out _ _ ?_ (fun hHeld => ?_)
            · try dsimp only
              assumption
            clear hK K
            try simp only [Act.put, List.setIfInBounds_toArray, List.set_cons_zero, List.set_cons_succ]
            refine wpAnyH_ready (rs := [12]) (by kernel_rfl) (by simp) ?_
            refine AllReadyH.cons (o := { dst := some 71, op := Op.call { callee := Callee.builtin Builtin.append, args := #[Operand.tmp 60, Operand.tmp 70], argTypes := #[28, 28] }, type := 28, pos := "l12_outbox.go:176", after := #[{ on := 1, ground := Ground.data }, { on := 11, ground := Ground.data }, { on := 9, ground := Ground.chain }], guard := none }) rfl (fun K hK => ?_) AllReadyH.nil
            refine step_appSe (by rfl) _ _ (by rfl) (by rfl) (by rfl) HB2.out.1.r2 (hatS wb) HSL.out HB2.out.1.le ?_
            intro gg cap w8 ho8 hg8 hor8
            have hG8 := HB2.out.1.grown hg8
            have hB8 := (hg8.block B (Array.getElem?_eq_some_iff.1 HB2.out.2).1 (fun e => own_apart HB2.out.1.r2 HB2.out.2 (by decide) e.symm)).trans HB2.out.2
            have H8 : Hid _ := And.intro (HB2.out.1.app2 ho8 hg8) hB8
            obtain ⟨y0, y1, y2, y3⟩ := bx4 hG8
            have hf8 := frzI hG8
            obtain ⟨g0, g1, g2, g3, g4⟩ := box5 hB8
            clear hG8 ho8 hg8 hor8 hB8
            try dsimp only
            refine hK.out _ _ ?_ (fun hHeld => ?_)
            · try dsimp only
              exact ⟨g0, g1, g2⟩
            clear hK K
            try simp only [Act.put, List.setIfInBounds_toArray, List.set_cons_zero, List.set_cons_succ]
            refine wpAnyH_take (i := 13) (oi := { dst := some 72, op := Op.fieldAddr 30 (Operand.tmp 5) 1, type := 0, pos := "l12_outbox.go:176", after := #[{ on := 0, ground := Ground.phase }, { on := 1, ground := Ground.phase }, { on := 2, ground := Ground.phase }, { on := 3, ground := Ground.phase }, { on := 4, ground := Ground.phase }, { on := 5, ground := Ground.phase }, { on := 6, ground := Ground.phase }, { on := 7, ground := Ground.phase }, { on := 8, ground := Ground.phase }, { on := 9, ground := Ground.phase }, { on := 10, ground := Ground.phase }, { on := 11, ground := Ground.phase }, { on := 12, ground := Ground.phase }], guard := none }) (v := ?_) rfl (by kernel_rfl) (by kernel_rfl) (by kernel_rfl) (fun _ _ _ h => h) (Or.inl ⟨by rfl, ?_⟩) (by assumption) ?_
            rotate_left 1
            · intro w hSw
              (try dsimp only at hSw)
              go_simp
              try with_reducible rfl
            try simp only [Act.put, List.setIfInBounds_toArray, List.set_cons_zero, List.set_cons_succ]
            refine wpAnyH_ready (rs := [14]) (by kernel_rfl) (by simp) ?_
            refine AllReadyH.cons (o := { dst := none, op := Op.store 28 (Operand.tmp 72) (Operand.tmp 71), type := 0, pos := "l12_outbox.go:176", after := #[{ on := 13, ground := Ground.data }, { on := 12, ground := Ground.data }, { on := 12, ground := Ground.chain }, { on := 0, ground := Ground.phase }, { on := 1, ground := Ground.phase }, { on := 2, ground := Ground.phase }, { on := 3, ground := Ground.phase }, { on := 4, ground := Ground.phase }, { on := 5, ground := Ground.phase }, { on := 6, ground := Ground.phase }, { on := 7, ground := Ground.phase }, { on := 8, ground := Ground.phase }, { on := 9, ground := Ground.phase }, { on := 10, ground := Ground.phase }, { on := 11, ground := Ground.phase }, { on := 12, ground := Ground.phase }], guard := none }) rfl (fun K hK => ?_) AllReadyH.nil
            go_simp
            refine hK.out _ _ ?_ (fun hHeld => ?_)
            · try dsimp only
              exact ⟨(box5 ((set_other _ _ _ _ _ (fun e => hXB e.symm)).trans H8.out.2)).1, (box5 ((set_other _ _ _ _ _ (fun e => hXB e.symm)).trans H8.out.2)).2.1, (box5 ((set_other _ _ _ _ _ (fun e => hXB e.symm)).trans H8.out.2)).2.2.1⟩
            clear hK K
            try simp only [Act.put, List.setIfInBounds_toArray, List.set_cons_zero, List.set_cons_succ]
            refine wpAnyH_done (by kernel_rfl) ?_ _
            go_wp2_with fail
            go_meet
            refine ⟨gg, cap, ?_, ?_⟩
            all_goals first | (have h := H8.out.1; rw [show (seS L ps ++ [SenR.mk c.partner c.number c.text]).length = (seS L ps).length + 1 by simp] at h; exact h) | exact (set_other _ _ _ _ _ (fun e => hXB e.symm)).trans H8.out.2
          case rest =>
          obtain ⟨gg, cap, hT9, hB9⟩ := hcut
          rename World => w12
          have H12 : Hid (∀ W, Below w12.heap.size w12 W → TR X NN C b1 b3 W4 W (.slice (some ⟨b1, 0, none⟩) L.length c1) (.slice (some ⟨gg, 0, none⟩) ((seS L ps).length + 1) cap) (.slice a3 M.length c3) (updL d L ps) (seS L ps ++ [senO c]) M L.length DP.length qs ∧ W.heap[B]? = some (.cells #[.string c.partner, .int .i64 c.number, .string c.text, .int .i64 c.tries, .int .i64 c.due] 25)) := fun W hW => ⟨hT9.below hW, (hW.block _ (Array.getElem?_eq_some_iff.1 hB9).1).trans hB9⟩
          clear hT9 hB9 x0 x1 x2 x3 q0 q1 q2 q3 q4
          obtain ⟨hT9, hB9⟩ := H12.out w12 (Below.refl _ _)
          obtain ⟨x0, x1, x2, x3⟩ := bx4 hT9.bx
          obtain ⟨q0, q1, q2, q3, q4⟩ := box5 hB9
          clear hT9 hB9
          have HCL : Hid (∀ W, Below w12.heap.size w12 W → (∃ u0 u1 u2 u3 u4, W.cell? ⟨b1, p * 5, none⟩ = some u0 ∧ W.cell? ⟨b1, p * 5 + 1, none⟩ = some u1 ∧ W.cell? ⟨b1, p * 5 + 2, none⟩ = some u2 ∧ W.cell? ⟨b1, p * 5 + 3, none⟩ = some u3 ∧ W.cell? ⟨b1, p * 5 + 4, none⟩ = some u4) ∧ ∀ o, W.frozen? ⟨b1, o, none⟩ = false) := fun W hW => by
            obtain ⟨a', cc', e, hcc⟩ := (H12.out W hW).1.l1.shape
            obtain ⟨_, m, f, hR, hm, _⟩ := hcc (fun e => by rw [← hul, e] at hpl; simp at hpl)
            exact ⟨⟨_, _, _, _, _, hR.cell (by omega), hR.cell (by omega), hR.cell (by omega), hR.cell (by omega), hR.cell (by omega)⟩, hR.frozen⟩
          go_upto_region 18 with fail
          go_region_law (first | (go_simp; go_at_call 35; refine (tried_any c d _ ⟨HCO.out.1.r0, HCO.out.1.r5⟩ HDD.out).mono ?_; rintro e wt ⟨rfl, hbt'⟩; have hbt : Below w12.heap.size w12 wt := (by first | exact hbt' | exact undrewT hbt'); have HTT : Hid _ := H12.out wt hbt; obtain ⟨s0, s1, s2, s3⟩ := bx4 HTT.out.1.bx; obtain ⟨⟨u0, u1, u2, u3, u4, z0, z1, z2, z3, z4⟩, hfz⟩ := HCL.out wt hbt; clear hbt hbt'; try dsimp only) | fail)
          all_goals go_wp2
          all_goals go_roundw
          all_goals have hw := HTT.out.1.write2 hul HPU.out (trdO d c) HTZ.out
          all_goals first | ((with_reducible refine ⟨ps ++ [p], qs, .slice (some ⟨gg, 0, none⟩) ((seS L ps).length + 1) cap, HST.out.2.2, ?_⟩); rw [HST.out.1, HST.out.2.1]; with_reducible exact hw) | (obtain ⟨r', hr'⟩ := hw.ch; rw [chLen_of hr', chLen_of HT2.out.2.2, List.length_cons]; exact Nat.lt_succ_self _)
end Go.Proofs.Ytiakkpglnijapaa
