/- Contract of the program's ThreeOrder. -/
import Derived.Test.YtppfobeencnbdaaThJ
import Derived.Test.YtppfobeencnbdaaThL
import Derived.Test.YtppfobeencnbdaaLnR
namespace Go.Proofs.Ytppfobeencnbdaa
open Go.ChangeShapes Go.WideShapes Go.ChangeAt Go.RowKit
set_option maxHeartbeats 8000000 in
theorem threeOrder_impl (A : Option Addr) (C : Nat) (rs : List OLn) (p r : ByteArray) (w : World) (h : RowOl w (.slice A rs.length C) rs) (hC : rs.length ≤ C) (hp : p.size ≤ 1048576) (hr : r.size ≤ 1048576) :
    Calls Try.prog 14 #[.slice A rs.length C, .string p, .string r] w fun e w' => e = .returned (.int .i64 (ordT rs p r)) ∧ Below w.heap.size w w' := by
  have hlen := h.len
  obtain ⟨t, ht⟩ : ∃ t, t = ordT rs p r := ⟨_, rfl⟩
  rw [← ht]
  have HT : Hid (t = ordT rs p r) := ht
  have H0 : Hid (RowOl w (.slice A rs.length C) rs) := h
  clear h ht
  go_enter Try.func14, Try.ntmps14
  by_cases hp1 : 20000 < p.size
  · have hp1' : (20000 : Int) < (p.size : Int) := by omega
    have HS : Hid (t = 0) := by show t = 0; rw [HT.out, ordT, if_neg (by omega)]
    go_wp2
    go_ret
    exact ⟨by rw [HS.out]; rfl, Below.refl _ _⟩
  have hp1' : ¬ (20000 : Int) < (p.size : Int) := by omega
  by_cases hr1 : 20000 < r.size
  · have hr1' : (20000 : Int) < (r.size : Int) := by omega
    have HS : Hid (t = 0) := by show t = 0; rw [HT.out, ordT, if_neg (by omega)]
    go_wp2
    go_ret
    exact ⟨by rw [HS.out]; rfl, Below.refl _ _⟩
  have hr1' : ¬ (20000 : Int) < (r.size : Int) := by omega
  go_wp2_with fail
  refine (linesRight_impl _ rs _ H0.out).mono ?_
  rintro e w2 ⟨rfl, hb2⟩
  have H2 : Hid (Below w.heap.size w w2) := hb2
  clear hb2
  cases hx : lnsB rs with
  | false =>
    have HS : Hid (t = 0) := by show t = 0; rw [HT.out, ordT, if_neg (by simp [hx])]
    clear hx
    go_wp2
    go_ret
    exact ⟨by rw [HS.out]; rfl, H2.out⟩
  | true =>
    have HN : Hid (RightL rs ∧ t = if rs.filter (ofR p r) = [] then 0 else allT (rs.filter (ofR p r))) := ⟨lnsB_iff.1 hx, by rw [HT.out, ordT, if_pos ⟨by omega, by omega, hx⟩]⟩
    clear hx
    go_wp2_with fail
    refine (linesOfOrder_any A C rs p r _ (H0.out.below H2.out) hC HN.out.1).mono ?_
    rintro e w3 ⟨u, rfl, hu, hb3⟩
    have H3 : Hid (Below w.heap.size w w3) := H2.out.trans (hb3.mono H2.out.size)
    obtain ⟨ls, hls⟩ : ∃ ls, ls = rs.filter (ofR p r) := ⟨_, rfl⟩
    rw [← hls] at hu HN
    clear hls hb3
    obtain ⟨A', C', rfl⟩ := hu.val
    have hll := hu.len
    have HU : Hid (RowOl w3 (.slice A' ls.length C') ls) := hu
    clear hu
    by_cases hn : ls = []
    · have HS : Hid (t = 0) := by show t = 0; rw [HN.out.2, if_pos hn]
      have h0 : (ls.length : Int) = 0 := by rw [hn]; rfl
      clear hn
      go_wp2
      go_ret
      exact ⟨by rw [HS.out]; rfl, H3.out⟩
    · have HS : Hid (t = allT ls ∧ ls ≠ []) := ⟨by rw [HN.out.2, if_neg hn], hn⟩
      have h0 : ¬ (ls.length : Int) = 0 := by have := List.length_pos_iff.2 hn; omega
      clear hn
      go_wp2_with fail
      refine (standOfAll_any _ ls _ HU.out HS.out.2).mono ?_
      rintro e w4 ⟨rfl, hb4⟩
      have H4 : Hid (Below w.heap.size w w4) := H3.out.trans (hb4.mono H3.out.size)
      clear hb4
      go_wp2
      go_ret
      exact ⟨by rw [HS.out.1]; rfl, H4.out⟩
theorem threeOrder_implV (v : Value) (rs : List OLn) (p r : ByteArray) (w : World) (h : RowOl w v rs) (hp : p.size ≤ 1048576) (hr : r.size ≤ 1048576) {A : Option Addr} (e : v = .slice A rs.length rs.length := by rfl) :
    Calls Try.prog 14 #[v, .string p, .string r] w fun e w' => e = .returned (.int .i64 (ordT rs p r)) ∧ Below w.heap.size w w' := by
  subst e
  exact threeOrder_impl A _ rs p r w h (Nat.le_refl _) hp hr
end Go.Proofs.Ytppfobeencnbdaa
