/- Texts of ours put together: SlS2. -/
import Derived.Test.YtibjmokhkjklkaaDoorG31
import Derived.WalkSmall
namespace Go.Proofs.YtibjmokhkjklkaaDoor
open Go.ChangeShapes Go.WideShapes Go.ChangeAt Go.RowKit
theorem own_capS {W : World} {n : Nat} {u : Value} {zs : List Int} (h : W.ownsRow n 2 1 u zs.length (zs.map (Value.int .i64))) (hl : zs.length ≤ 1000000) : ∃ A C, u = .slice A zs.length C ∧ zs.length ≤ C ∧ C ≤ 9223372036854775807 ∧ RowN W (.slice A zs.length C) zs := by
  obtain ⟨b, _, hL⟩ := LN.of_owns h (by omega)
  rcases h.2 with ⟨e, h0⟩ | ⟨b, cap, cur, e, hb, hh, hc, hm, hs, ht⟩
  · subst e
    have hz : zs.length = 0 := h0
    exact ⟨none, 0, by rw [hz], by omega, by omega, by have := hL.row; rw [hz]; exact this⟩
  · subst e
    exact ⟨_, _, rfl, hc, by unfold maxLen at hm; omega, hL.row⟩
theorem l01Min_any (x y : Int) (w : World) : Calls Tryd.prog 29 #[.int .i64 x, .int .i64 y] w fun e w' => e = .returned (.int .i64 (min x y)) ∧ w' = w := by
  by_cases h : x < y
  · have e : min x y = x := by omega
    rw [e]
    go_enter Tryd.func29, Tryd.ntmps29
    go_wp2
    go_ret
    exact ⟨rfl, rfl⟩
  · have e : min x y = y := by omega
    rw [e]
    go_enter Tryd.func29, Tryd.ntmps29
    go_wp2
    go_ret
    exact ⟨rfl, rfl⟩
set_option maxHeartbeats 8000000 in
theorem sealFault_spec (v : Value) (rs : List EvR) (c : List Int) (a : Option Addr) (ca : Nat) (w : World) (h : RowEv w v rs) (h' : RowN w (.slice a c.length ca) c) :
    Calls Tryd.prog 15 #[v, .slice a c.length ca] w fun e w' => e = .returned (.int .i64 (faultT rs c)) ∧ Below w.heap.size w w' := by
  obtain ⟨A, Cp, rfl⟩ := h.val
  have hlen := h.len
  have hlc := h'.len
  have H0 : Hid (RowEv w (.slice A rs.length Cp) rs ∧ RowN w (.slice a c.length ca) c) := ⟨h, h'⟩
  have Q := l19Right_any (.slice A rs.length Cp) rs w h
  obtain ⟨y, hy⟩ : ∃ y, y = okE rs := ⟨_, rfl⟩
  have HY : Hid (y = okE rs) := hy
  rw [← hy] at Q
  clear h hy h'
  go_enter Tryd.func15, Tryd.ntmps15
  by_cases hl0 : rs.length ≤ 400
  case neg =>
    have hl' : (rs.length : Int) > 400 := by omega
    have HN : Hid (faultT rs c = 0) := faultT_no (okE_long (by omega))
    clear Q
    go_wp2
    go_ret
    exact ⟨by rw [HN.out]; rfl, Below.refl _ _⟩
  have hl0' : ¬ (rs.length : Int) > 400 := by omega
  by_cases hl : c.length ≤ 400
  case neg =>
    have hl' : (c.length : Int) > 400 := by omega
    have HN : Hid (faultT rs c = 0) := faultT_long hl
    clear Q
    go_wp2
    go_ret
    exact ⟨by rw [HN.out]; rfl, Below.refl _ _⟩
  have hl' : ¬ (c.length : Int) > 400 := by omega
  go_wp2_with fail
  refine Q.mono ?_
  rintro e w1 ⟨rfl, hb1⟩
  have H1 : Hid (Below w.heap.size w w1) := hb1
  clear hb1 Q
  cases y with
  | false =>
    have HN : Hid (faultT rs c = 0) := faultT_no HY.out.symm
    go_wp2
    go_ret
    exact ⟨by rw [HN.out]; rfl, H1.out⟩
  | true =>
  have HN : Hid (faultT rs c = unlikeT (chainT rs) c ∧ (chainT rs).length ≤ 60) := ⟨by rw [chainT_yes HY.out.symm]; exact faultT_yes hl HY.out.symm, chainT_len rs⟩
  have Q2 := sealChain_spec (.slice A rs.length Cp) rs w1 (H0.out.1.below H1.out)
  obtain ⟨ts, hts⟩ : ∃ ts, ts = chainT rs := ⟨_, rfl⟩
  rw [← hts] at HN Q2
  clear hts HY
  go_wp2_with fail
  refine Q2.mono ?_
  rintro e w2 ⟨u, rfl, hu, hb2⟩
  have htl := HN.out.2
  obtain ⟨A2, C2, rfl, _, _, hr2⟩ := own_capS hu (by omega)
  have H2 : Hid (Below w.heap.size w w2 ∧ RowN w2 (.slice A2 ts.length C2) ts ∧ RowN w2 (.slice a c.length ca) c) := ⟨H1.out.trans (hb2.mono H1.out.size), hr2, (H0.out.2.below H1.out).below hb2⟩
  clear hu hb2 hr2 Q2
  go_wp2_with fail
  go_loopw [6] (fun i wr => ∃ k : Nat, i = .int .i64 (k : Int) ∧ k ≤ ts.length ∧ k ≤ c.length ∧ (∀ j, j < k → ts[j]? = c[j]?) ∧ Below w2.heap.size w2 wr) (fun i _ => ts.length - (intOf i).toNat)
  case atStart => exact ⟨0, rfl, by omega, by omega, fun j hj => by omega, Below.refl _ _⟩
  case round =>
    obtain ⟨k, rfl, hk1, hk2, hall, hb⟩ := hrel
    by_cases hlt : k < ts.length ∧ k < c.length
    · obtain ⟨g1, g2⟩ := hlt
      have g1' : (k : Int) < (ts.length : Int) := by omega
      have g2' : (k : Int) < (c.length : Int) := by omega
      obtain ⟨b1, o1, c1, x, e1, hs1, p1⟩ := (H2.out.2.1.below hb).at g1
      obtain ⟨b2, o2, c2, y, e2, hs2, p2⟩ := (H2.out.2.2.below hb).at g2
      simp only [Value.slice.injEq, true_and] at e1 e2
      obtain ⟨rfl, rfl⟩ := e1
      obtain ⟨rfl, rfl⟩ := e2
      have HI : Hid ((∀ j, j < k → ts[j]? = c[j]?) ∧ Below w2.heap.size w2 wr ∧ ts[k]? = some x ∧ c[k]? = some y) := ⟨hall, hb, hs1, hs2⟩
      clear hall hb hs1 hs2
      by_cases hxy : x = y
      · have HS : Hid (∀ j, j < k + 1 → ts[j]? = c[j]?) := fun j hj => by
          by_cases g : j = k
          · rw [g, HI.out.2.2.1, HI.out.2.2.2, hxy]
          · exact HI.out.1 j (by omega)
        subst hxy
        go_wp2_with fail
        go_quiet (fail)
        go_wp2
        go_roundw
        case rel => exact ⟨k + 1, by go_num, by omega, by omega, HS.out, by first | exact below_drewN HI.out.2.1 _ | exact HI.out.2.1⟩
        case measure => simp [intOf]; omega
      · have HF : Hid (faultT rs c = (k : Int)) := by
          show _ = _
          rw [HN.out.1]
          exact unlikeT_at HI.out.1 (by rw [HI.out.2.2.1, HI.out.2.2.2]; simpa using hxy)
        have hxy' : (x != y) = true := by simpa using hxy
        go_wp2_with fail
        go_quiet (fail)
        go_wp2
        go_ret
        exact ⟨by rw [HF.out]; rfl, H2.out.1.trans ((by first | exact below_drewN HI.out.2.1 _ | exact HI.out.2.1 : Below w2.heap.size w2 _).mono H2.out.1.size)⟩
    · have HE : Hid (faultT rs c = if ts.length = c.length then -1 else ((min ts.length c.length : Nat) : Int)) := by
        show _ = _
        rw [HN.out.1]
        exact unlikeT_end fun j hj => hall j (by omega)
      have HB : Hid (Below w.heap.size w wr) := H2.out.1.trans (hb.mono H2.out.1.size)
      clear hall hb
      by_cases hq : ts.length = c.length
      · have HF : Hid (faultT rs c = -1) := by show _ = _; rw [HE.out, if_pos hq]
        have hq' : ((ts.length : Int) == (c.length : Int)) = true := by simp [hq]
        have g1 : ¬ (k : Int) < (ts.length : Int) := by omega
        clear hq
        go_wp2
        go_ret
        exact ⟨by rw [HF.out]; rfl, HB.out⟩
      · have HF : Hid (faultT rs c = ((min ts.length c.length : Nat) : Int)) := by show _ = _; rw [HE.out, if_neg hq]
        have hq' : ((ts.length : Int) == (c.length : Int)) = false := by simp; omega
        have QM := fun W => l01Min_any (ts.length : Int) (c.length : Int) W
        obtain ⟨m, hm⟩ : ∃ m : Int, m = min (ts.length : Int) (c.length : Int) := ⟨_, rfl⟩
        have HM : Hid (((min ts.length c.length : Nat) : Int) = m) := by show _ = _; rw [hm]; omega
        rw [← hm] at QM
        clear hq hm
        by_cases g1 : (k : Int) < (ts.length : Int)
        · have g2 : ¬ (k : Int) < (c.length : Int) := by omega
          go_wp2_with fail
          refine (QM _).mono ?_
          rintro e w5 ⟨rfl, rfl⟩
          go_wp2
          go_ret
          exact ⟨by rw [HF.out, HM.out]; rfl, HB.out⟩
        · go_wp2_with fail
          refine (QM _).mono ?_
          rintro e w5 ⟨rfl, rfl⟩
          go_wp2
          go_ret
          exact ⟨by rw [HF.out, HM.out]; rfl, HB.out⟩
end Go.Proofs.YtibjmokhkjklkaaDoor
