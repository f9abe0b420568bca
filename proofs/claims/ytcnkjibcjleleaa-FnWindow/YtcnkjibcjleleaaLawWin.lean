/- FnWindow returns true at every list of bytes and leaves it as it was: of drawn numbers each is told stale, again or new as the numbers so far say; no condition. -/
import Derived.Test.YtcnkjibcjleleaaDrawRun
import Derived.Test.YtcnkjibcjleleaaWinP
import Derived.Test.YtcnkjibcjleleaaAppsN
import Derived.Test.YtcnkjibcjleleaaRunI
import Derived.Test.YtcnkjibcjleleaaRunS
import Derived.Deep.QuietTactic
import Derived.BigQuiet
namespace Go.Proofs.Ytcnkjibcjleleaa
open Go.ChangeShapes Go.WideShapes Go.ChangeAt Go.RowKit
open Go.Shelf
set_option linter.unusedVariables false
namespace fnWindow
def IsRow (k : IntKind) (w : World) (a : Option Addr) (len cap : Nat) (zs : List Int) : Prop :=
  (a = none ∧ len = 0 ∧ cap = 0 ∧ zs = []) ∨
  ∃ x, a = some x ∧ len ≤ cap ∧ cap ≤ maxLen ∧ zs.length = cap ∧ (∀ i, i < zs.length → w.cell? (x.add i) = some (.int k (zs.getD i 0))) ∧ ∀ n ∈ zs, (Lit.int k n).wf = true
theorem IsRow.bytesAt {w : World} {a : Option Addr} {len cap : Nat} {zs : List Int} (h : IsRow .u8 w a len cap zs) : BytesAt w a len zs := by
  intro g
  rcases h with ⟨_, rfl, _, _⟩ | ⟨x, rfl, hl, _, hz, hc, _⟩
  · omega
  · obtain ⟨b, off, spot⟩ := x
    have h0 := hc 0 (by omega)
    have hspot : spot = none := by simpa [Addr.add] using World.cell?_spot h0
    subst hspot
    refine ⟨b, off, rfl, fun i hi => ?_⟩
    have hplain : (⟨b, off, none⟩ : Addr).add i = ⟨b, off + i, none⟩ := by unfold Addr.add; split <;> simp_all
    have := hc i (by omega)
    rw [hplain] at this
    simpa [List.getD] using this
theorem IsRow.len_le {w : World} {a : Option Addr} {len cap : Nat} {zs : List Int} (h : IsRow .u8 w a len cap zs) : len ≤ 9223372036854775807 := by
  rcases h with ⟨_, rfl, _, _⟩ | ⟨x, rfl, hl, hm, hz, hc, _⟩
  · omega
  · unfold maxLen at hm
    omega
theorem RowN.at' {W : World} {zs : List Int} {n C : Nat} {A : Option Addr} (h : RowN W (.slice A n C) zs) (hn : zs.length = n) {k : Nat} (hk : k < n) : ∃ b o cap z, (.slice A n C : Value) = .slice (some ⟨b, o, none⟩) n cap ∧ zs[k]? = some z ∧ W.cell? ⟨b, o + k, none⟩ = some (.int .i64 z) := by
  subst hn
  exact h.at hk
theorem appN_alloc {W W' : World} {o : Obj} (hg : (W.alloc o).grownBy W' (some W.heap.size)) : Below W.heap.size W W' := ⟨hg.os, hg.tape, hg.output, by have := hg.size; simp at this; omega, fun k hk => (hg.block k (by simp; omega) (by simp; omega)).trans (Below.heap_alloc _ _ _ hk)⟩
theorem below_grownW {W W' : World} (hb : Below W.heap.size W W') : W.grownBy W' none := ⟨hb.os, hb.tape, hb.output, hb.size, fun k hk _ => hb.block k hk⟩
theorem own_below {W W' : World} {base n : Nat} {v : Value} {l : List Value} (h : W.ownsRow base 2 1 v n l) (hb : Below W.heap.size W W') : W'.ownsRow base 2 1 v n l := by
  refine h.kept (below_grownW hb) ?_
  cases hv : v.ownBlock with
  | none => exact .inl rfl
  | some k => exact .inr (by simp)
set_option maxRecDepth 100000 in
set_option maxHeartbeats 4000000 in
theorem walk (a0 : Option Addr) (len0 cap0 : Nat) (z0 : List Int) (w : World) (w0 : IsRow .u8 w a0 len0 cap0 z0) :
    Calls Try.prog 3 #[.slice a0 len0 cap0] w fun e w' => e = .returned (.bool true) ∧ Below w.heap.size w w' := by
  have hl0 := w0.len_le
  have HR : Hid (BytesAt w a0 len0 z0) := w0.bytesAt
  clear w0
  by_cases hg : 1048576 < len0
  · have hg' : (1048576 : Int) < (len0 : Int) := by omega
    clear HR
    go_enter Try.func3, Try.ntmps3
    go_wp2
    go_ret
    exact ⟨rfl, Below.refl _ _⟩
  have hg' : (len0 : Int) ≤ 1048576 := by omega
  go_enter Try.func3, Try.ntmps3
  go_wp2_with fail
  refine (drawRun_any a0 len0 cap0 z0 _ (by omega) HR.out).mono ?_
  rintro e w1 ⟨s, v, xs, rfl, hs, hx, ⟨ad, Cx, rfl⟩, hrow, hb1⟩
  clear HR
  go_wp2_with fail
  refine (run_spec s _ xs _ hrow (by omega)).mono ?_
  rintro e w2 ⟨u, rfl, hu, hb2⟩
  obtain ⟨Au, Cu, rfl⟩ := hu.val
  clear hu
  have hrow2 := hrow.below hb2
  have hbw2 : Below w.heap.size w w2 := hb1.trans (hb2.mono hb1.size)
  have hal : Below w2.heap.size w2 (w2.alloc (.cells #[] 2)) := (Below.refl _ _).alloc (Nat.le_refl _) _
  have hmade : (w2.alloc (.cells #[] 2)).ownsRow w2.heap.size 2 1 (.slice (some ⟨w2.heap.size, 0, none⟩) 0 0) ([] : List Int).length (([] : List Int).map (Value.int .i64)) := by
    have := World.ownsRow_made (base := w2.heap.size) (e := 2) (size := 1) w2 #[] 0 (by simp) (by unfold maxLen; omega) (by simp)
    simpa using this
  have hrow2a := hrow2.below hal
  have H2 : Hid (RowN w2 (.slice (some ad) xs.length Cx) xs ∧ Below w.heap.size w w2) := ⟨hrow2, hbw2⟩
  clear hrow hrow2 hb1 hb2 hbw2 hal
  have tok1 : True := trivial
  go_wp2_with (at_builtin; have _t := tok1; refine wpList_appsN (zs := []) (ms := xs) (base := w2.heap.size) rfl _ _ rfl rfl rfl hmade hrow2a (by simp; omega) (by simp) ?_; rintro v3 w3 hown3 hgrow3; have kp3 : Below w2.heap.size w2 w3 := (appN_alloc hgrow3); have r3 : ∃ b, w2.heap.size ≤ b ∧ LN b w3 v3 xs := LN.of_owns (by rw [List.nil_append] at hown3; exact hown3) (by omega); clear tok1 hown3 hgrow3 hmade hrow2a)
  obtain ⟨b3, _, r3⟩ := r3
  refine (run_impl s _ xs _ r3.row).mono ?_
  rintro e w4 ⟨u4, rfl, ⟨b4, _, hL4⟩, hb4⟩
  have hA4 := hL4.row
  obtain ⟨Aa, Ca, rfl⟩ := hL4.val
  have kp4 : Below w2.heap.size w2 w4 := kp3.trans (hb4.mono kp3.size)
  have hX4 := H2.out.1.below kp4
  have hbw4 : Below w.heap.size w w4 := H2.out.2.trans (kp4.mono H2.out.2.size)
  clear hL4 r3 kp3 hb4 kp4 H2
  have HW : Hid (Below w.heap.size w w4 ∧ RowN w4 (.slice (some ad) xs.length Cx) xs ∧ RowN w4 (.slice Aa (runL s xs).length Ca) (runL s xs)) := ⟨hbw4, hX4, hA4⟩
  clear hbw4 hX4 hA4
  have hmade : (w4.alloc (.cells #[] 2)).ownsRow w4.heap.size 2 1 (.slice (some ⟨w4.heap.size, 0, none⟩) 0 0) (xs.take 0).length ((xs.take 0).map (Value.int .i64)) := by
    have := World.ownsRow_made (base := w4.heap.size) (e := 2) (size := 1) w4 #[] 0 (by simp) (by unfold maxLen; omega) (by simp)
    simpa using this
  have hal : Below w4.heap.size w4 (w4.alloc (.cells #[] 2)) := (Below.refl _ _).alloc (Nat.le_refl _) _
  have HM0 : Hid ((w4.alloc (.cells #[] 2)).ownsRow w4.heap.size 2 1 (.slice (some ⟨w4.heap.size, 0, none⟩) 0 0) (xs.take 0).length ((xs.take 0).map (Value.int .i64)) ∧ Below w4.heap.size w4 (w4.alloc (.cells #[] 2))) := ⟨hmade, hal⟩
  clear hmade hal
  obtain ⟨RL, hRL⟩ : ∃ RL, (runL s xs).length = RL := ⟨_, rfl⟩
  have HRL : Hid ((runL s xs).length = RL ∧ RL ≤ 9223372036854775807) := ⟨hRL, by rw [← hRL]; exact HW.out.2.2.len⟩
  rw [hRL] at HW ⊢
  clear hRL
  go_wp2
  go_loopw [7, 8, 9] (fun tk lo i wr => ∃ (k : Nat) (low : Int), i = .int .i64 (k : Int) ∧ lo = .int .i64 low ∧ k ≤ RL ∧ WLaw s xs k low ∧ wr.ownsRow w4.heap.size 2 1 tk (xs.take k).length ((xs.take k).map (Value.int .i64)) ∧ Below w4.heap.size w4 wr) (fun _ _ i _ => RL - (intOf i).toNat)
  case atStart => exact ⟨0, 1, rfl, rfl, by omega, wlaw_zero s xs, HM0.out.1, HM0.out.2⟩
  case round =>
    obtain ⟨k, low, rfl, rfl, hk, hLaw, hown, hkp⟩ := hrel
    clear HM0
    have hRL2 := HRL.out.2
    by_cases hlt : k < RL
    · have hlt' : (k : Int) < (RL : Int) := by omega
      have hltR : k < (runL s xs).length := by rw [HRL.out.1]; exact hlt
      obtain ⟨l1, l2⟩ := hLaw.low1 hltR
      obtain ⟨hkx, hk4, hstep⟩ := hLaw.step hltR
      obtain ⟨bx, ox, cx, z, ex, hz, qx4⟩ := HW.out.2.1.at hkx
      simp only [Value.slice.injEq, Option.some.injEq, true_and] at ex
      obtain ⟨ex1, ex2⟩ := ex
      subst ex1 ex2
      obtain ⟨hz1, hans, hnext⟩ := hstep z hz
      obtain ⟨ba, oa, ca, a, ea, ha, qa4⟩ := RowN.at' HW.out.2.2 HRL.out.1 hlt
      simp only [Value.slice.injEq, true_and] at ea
      obtain ⟨rfl, rfl⟩ := ea
      have hak : wKind low (xs.take k) z = a := by rw [hans] at ha; exact Option.some.inj ha
      have htk : (xs.take k).length = k := by simp; omega
      have htk1 : xs.take (k + 1) = xs.take k ++ [z] := by rw [List.take_add_one, hz]; rfl
      obtain ⟨tb, _, hT⟩ := LN.of_owns hown (by omega)
      obtain ⟨At, Ct, rfl⟩ := hT.val
      have qx := (hkp.cell (p := ⟨bx, ox + k, none⟩) (cell_lt qx4)).trans qx4
      have qa := (hkp.cell (p := ⟨ba, oa + k, none⟩) (cell_lt qa4)).trans qa4
      have HT : Hid (RowN wr (.slice At (xs.take k).length Ct) (xs.take k)) := hT.row
      have HO : Hid (wr.ownsRow w4.heap.size 2 1 (.slice At (xs.take k).length Ct) (xs.take k).length ((xs.take k).map (Value.int .i64)) ∧ Below w4.heap.size w4 wr) := ⟨hown, hkp⟩
      have HA : Hid (wKind low (xs.take k) z = a) := hak
      have HX : Hid (bx < w4.heap.size ∧ w4.cell? ⟨bx, ox + k, none⟩ = some (.int .i64 z)) := ⟨cell_lt qx4, qx4⟩
      have HTK : Hid (xs.take (k + 1) = xs.take k ++ [z]) := htk1
      have HS : Hid ((1 ≤ z ∧ z ≤ 999999) ∧ k < xs.length ∧ k < 400 ∧ WLaw s xs (k + 1) (wLow low z)) := ⟨hz1, hkx, hk4, hnext⟩
      obtain ⟨hz1, hz2⟩ := hz1
      clear hT hown hkp hak htk1 hstep hnext hans ha hz hLaw hltR qx4 qa4
      simp only [htk] at HT HO ⊢
      by_cases hzl : z < low
      · go_wp2
        obtain ⟨wo, hwo⟩ : ∃ wo, wo = wr := ⟨_, rfl⟩
        subst hwo
        go_loopw [10, 11] (fun kd j wr2 => ∃ (m : Nat), j = .int .i64 (m : Int) ∧ m ≤ k ∧ kd = .int .i64 (wKind low ((xs.take k).take m) z) ∧ Below wo.heap.size wo wr2) (fun _ j _ => k - (intOf j).toNat)
        case atStart => exact ⟨0, rfl, by omega, by simp [wKind, hzl], Below.refl _ _⟩
        case round =>
          obtain ⟨m, rfl, hm, rfl, hb5⟩ := hrel
          have qx5 := (hb5.cell (p := ⟨bx, ox + k, none⟩) (cell_lt qx)).trans qx
          have qa5 := (hb5.cell (p := ⟨ba, oa + k, none⟩) (cell_lt qa)).trans qa
          have HB5 : Hid (Below wo.heap.size wo wr) := hb5
          by_cases hlt5 : m < k
          · have hlt5' : (m : Int) < (k : Int) := by omega
            obtain ⟨bt, ot, ct, t, et, ht, qt⟩ := (HT.out.below hb5).at (show m < (xs.take k).length by rw [htk]; exact hlt5)
            simp only [htk, Value.slice.injEq, true_and] at et
            obtain ⟨rfl, rfl⟩ := et
            have HM : Hid ((xs.take k)[m]? = some t) := ht
            clear ht hb5
            by_cases htz : t = z
            · subst htz
              rcases wKind_cases low ((xs.take k).take m) t with hk1 | hk1
              · have HE : Hid (wKind low ((xs.take k).take m) t = 1) := hk1
                rw [hk1]
                clear hk1
                go_wp2
                go_quiet (fail)
                go_wp2
                go_roundw
                case rel => exact ⟨m + 1, by go_num, by omega, by rw [wKind_there HM.out HE.out], below_drewN HB5.out _⟩
                case measure => simp [intOf]; omega
              · have hne1 : wKind low ((xs.take k).take m) t ≠ 1 := by omega
                obtain ⟨kd, hkd⟩ : ∃ kd, wKind low ((xs.take k).take m) t = kd := ⟨_, rfl⟩
                have HE : Hid (wKind low ((xs.take k).take m) t = kd ∧ wKind low ((xs.take k).take m) t ≠ 1) := ⟨hkd, hne1⟩
                rw [hkd] at hne1 ⊢
                have hne2 : (kd == 1) = false := by simpa using hne1
                clear hk1 hkd
                go_wp2
                go_quiet (fail)
                go_wp2
                go_roundw
                case rel => exact ⟨m + 1, by go_num, by omega, by rw [wKind_stay HM.out HE.out.2, HE.out.1], below_drewN HB5.out _⟩
                case measure => simp [intOf]; omega
            · have htz2 : (t == z) = false := by simpa using htz
              obtain ⟨kd, hkd⟩ : ∃ kd, wKind low ((xs.take k).take m) z = kd := ⟨_, rfl⟩
              have HE : Hid (wKind low ((xs.take k).take m) z = kd ∧ t ≠ z) := ⟨hkd, htz⟩
              rw [hkd]
              clear hkd
              go_wp2
              go_quiet (fail)
              go_wp2
              go_roundw
              case rel => exact ⟨m + 1, by go_num, by omega, by rw [wKind_same HM.out HE.out.2, HE.out.1], below_drewN HB5.out _⟩
              case measure => simp [intOf]; omega
          · obtain rfl : m = k := by omega
            have e5 : (xs.take m).take m = xs.take m := by rw [List.take_take, Nat.min_self]
            have HE : Hid (wKind low (xs.take m) z = a) := HA.out
            rw [e5, HE.out]
            have own5 : Hid (wr.ownsRow w4.heap.size 2 1 (.slice At m Ct) (xs.take m).length ((xs.take m).map (Value.int .i64))) := by
              rw [htk]
              exact own_below HO.out.1 hb5
            have kp5 : Below w4.heap.size w4 wr := HO.out.2.trans (hb5.mono HO.out.2.size)
            have HP : Hid (Below w4.heap.size w4 wr) := kp5
            have HTL : Hid ((xs.take m).length = m ∧ m < 400) := ⟨htk, HS.out.2.2.1⟩
            clear hb5 kp5 htk
            by_cases hlw : low < z - 31
            · exact absurd hlw (by omega)
            · have hlw' : ¬ low < z - 32 + 1 := by omega
              have tok1 : True := trivial
              go_wp2_with (at_builtin; have _t := tok1; refine wpList_appN (z := z) (zs := xs.take m) (base := w4.heap.size) rfl _ _ rfl rfl rfl (own5.out.alloc _) (cell_newN _ _) (by have h8 := HTL.out; omega) (by have h9 := HP.out.size; simp only [World.size_alloc]; omega) ?_; rintro v6 w6 hown6 hgrow6 _; have kp6 : Below w4.heap.size w4 w6 := (HP.out.trans (appN_below (Below.refl _ _) HP.out.size own5.out hgrow6)); have qx6 : w6.cell? ⟨bx, ox + m, none⟩ = some (.int .i64 z) := ((kp6.cell (p := ⟨bx, ox + m, none⟩) HX.out.1).trans HX.out.2); have H6 : Hid (w6.ownsRow w4.heap.size 2 1 v6 (xs.take m ++ [z]).length ((xs.take m ++ [z]).map (Value.int .i64)) ∧ Below w4.heap.size w4 w6) := ⟨hown6, kp6⟩; clear tok1 hown6 hgrow6 kp6 own5 qx5 qa5)
              go_roundw
              case rel => exact ⟨m + 1, wLow low z, by go_num, by rw [show wLow low z = low by (unfold wLow; rw [if_neg hlw])], by omega, HS.out.2.2.2, by rw [HTK.out]; exact H6.out.1, H6.out.2⟩
              case measure => simp [intOf]; omega
      · go_wp2
        obtain ⟨wo, hwo⟩ : ∃ wo, wo = wr := ⟨_, rfl⟩
        subst hwo
        go_loopw [10, 11] (fun kd j wr2 => ∃ (m : Nat), j = .int .i64 (m : Int) ∧ m ≤ k ∧ kd = .int .i64 (wKind low ((xs.take k).take m) z) ∧ Below wo.heap.size wo wr2) (fun _ j _ => k - (intOf j).toNat)
        case atStart => exact ⟨0, rfl, by omega, by simp [wKind, hzl], Below.refl _ _⟩
        case round =>
          obtain ⟨m, rfl, hm, rfl, hb5⟩ := hrel
          have qx5 := (hb5.cell (p := ⟨bx, ox + k, none⟩) (cell_lt qx)).trans qx
          have qa5 := (hb5.cell (p := ⟨ba, oa + k, none⟩) (cell_lt qa)).trans qa
          have HB5 : Hid (Below wo.heap.size wo wr) := hb5
          by_cases hlt5 : m < k
          · have hlt5' : (m : Int) < (k : Int) := by omega
            obtain ⟨bt, ot, ct, t, et, ht, qt⟩ := (HT.out.below hb5).at (show m < (xs.take k).length by rw [htk]; exact hlt5)
            simp only [htk, Value.slice.injEq, true_and] at et
            obtain ⟨rfl, rfl⟩ := et
            have HM : Hid ((xs.take k)[m]? = some t) := ht
            clear ht hb5
            by_cases htz : t = z
            · subst htz
              rcases wKind_cases low ((xs.take k).take m) t with hk1 | hk1
              · have HE : Hid (wKind low ((xs.take k).take m) t = 1) := hk1
                rw [hk1]
                clear hk1
                go_wp2
                go_quiet (fail)
                go_wp2
                go_roundw
                case rel => exact ⟨m + 1, by go_num, by omega, by rw [wKind_there HM.out HE.out], below_drewN HB5.out _⟩
                case measure => simp [intOf]; omega
              · have hne1 : wKind low ((xs.take k).take m) t ≠ 1 := by omega
                obtain ⟨kd, hkd⟩ : ∃ kd, wKind low ((xs.take k).take m) t = kd := ⟨_, rfl⟩
                have HE : Hid (wKind low ((xs.take k).take m) t = kd ∧ wKind low ((xs.take k).take m) t ≠ 1) := ⟨hkd, hne1⟩
                rw [hkd] at hne1 ⊢
                have hne2 : (kd == 1) = false := by simpa using hne1
                clear hk1 hkd
                go_wp2
                go_quiet (fail)
                go_wp2
                go_roundw
                case rel => exact ⟨m + 1, by go_num, by omega, by rw [wKind_stay HM.out HE.out.2, HE.out.1], below_drewN HB5.out _⟩
                case measure => simp [intOf]; omega
            · have htz2 : (t == z) = false := by simpa using htz
              obtain ⟨kd, hkd⟩ : ∃ kd, wKind low ((xs.take k).take m) z = kd := ⟨_, rfl⟩
              have HE : Hid (wKind low ((xs.take k).take m) z = kd ∧ t ≠ z) := ⟨hkd, htz⟩
              rw [hkd]
              clear hkd
              go_wp2
              go_quiet (fail)
              go_wp2
              go_roundw
              case rel => exact ⟨m + 1, by go_num, by omega, by rw [wKind_same HM.out HE.out.2, HE.out.1], below_drewN HB5.out _⟩
              case measure => simp [intOf]; omega
          · obtain rfl : m = k := by omega
            have e5 : (xs.take m).take m = xs.take m := by rw [List.take_take, Nat.min_self]
            have HE : Hid (wKind low (xs.take m) z = a) := HA.out
            rw [e5, HE.out]
            have own5 : Hid (wr.ownsRow w4.heap.size 2 1 (.slice At m Ct) (xs.take m).length ((xs.take m).map (Value.int .i64))) := by
              rw [htk]
              exact own_below HO.out.1 hb5
            have kp5 : Below w4.heap.size w4 wr := HO.out.2.trans (hb5.mono HO.out.2.size)
            have HP : Hid (Below w4.heap.size w4 wr) := kp5
            have HTL : Hid ((xs.take m).length = m ∧ m < 400) := ⟨htk, HS.out.2.2.1⟩
            clear hb5 kp5 htk
            by_cases hlw : low < z - 31
            · have hlw' : low < z - 32 + 1 := by omega
              have tok1 : True := trivial
              go_wp2_with (at_builtin; have _t := tok1; refine wpList_appN (z := z) (zs := xs.take m) (base := w4.heap.size) rfl _ _ rfl rfl rfl (own5.out.alloc _) (cell_newN _ _) (by have h8 := HTL.out; omega) (by have h9 := HP.out.size; simp only [World.size_alloc]; omega) ?_; rintro v6 w6 hown6 hgrow6 _; have kp6 : Below w4.heap.size w4 w6 := (HP.out.trans (appN_below (Below.refl _ _) HP.out.size own5.out hgrow6)); have qx6 : w6.cell? ⟨bx, ox + m, none⟩ = some (.int .i64 z) := ((kp6.cell (p := ⟨bx, ox + m, none⟩) HX.out.1).trans HX.out.2); have H6 : Hid (w6.ownsRow w4.heap.size 2 1 v6 (xs.take m ++ [z]).length ((xs.take m ++ [z]).map (Value.int .i64)) ∧ Below w4.heap.size w4 w6) := ⟨hown6, kp6⟩; clear tok1 hown6 hgrow6 kp6 own5 qx5 qa5)
              go_roundw
              case rel => exact ⟨m + 1, wLow low z, by go_num, by rw [show wLow low z = z - 32 + 1 by (unfold wLow; rw [if_pos hlw]; omega)], by omega, HS.out.2.2.2, by rw [HTK.out]; exact H6.out.1, H6.out.2⟩
              case measure => simp [intOf]; omega
            · have hlw' : ¬ low < z - 32 + 1 := by omega
              have tok1 : True := trivial
              go_wp2_with (at_builtin; have _t := tok1; refine wpList_appN (z := z) (zs := xs.take m) (base := w4.heap.size) rfl _ _ rfl rfl rfl (own5.out.alloc _) (cell_newN _ _) (by have h8 := HTL.out; omega) (by have h9 := HP.out.size; simp only [World.size_alloc]; omega) ?_; rintro v6 w6 hown6 hgrow6 _; have kp6 : Below w4.heap.size w4 w6 := (HP.out.trans (appN_below (Below.refl _ _) HP.out.size own5.out hgrow6)); have qx6 : w6.cell? ⟨bx, ox + m, none⟩ = some (.int .i64 z) := ((kp6.cell (p := ⟨bx, ox + m, none⟩) HX.out.1).trans HX.out.2); have H6 : Hid (w6.ownsRow w4.heap.size 2 1 v6 (xs.take m ++ [z]).length ((xs.take m ++ [z]).map (Value.int .i64)) ∧ Below w4.heap.size w4 w6) := ⟨hown6, kp6⟩; clear tok1 hown6 hgrow6 kp6 own5 qx5 qa5)
              go_roundw
              case rel => exact ⟨m + 1, wLow low z, by go_num, by rw [show wLow low z = low by (unfold wLow; rw [if_neg hlw])], by omega, HS.out.2.2.2, by rw [HTK.out]; exact H6.out.1, H6.out.2⟩
              case measure => simp [intOf]; omega
    · obtain rfl : k = RL := by omega
      have HF : Hid (Below w.heap.size w wr) := HW.out.1.trans (hkp.mono HW.out.1.size)
      clear hown hkp hLaw
      go_wp2
      go_ret
      exact ⟨rfl, HF.out⟩
theorem own : ownKnob Try.prog.godebug = none := by kernel_rfl
theorem laidOut : laidOutB Try.prog = true := by kernel_rfl
set_option maxRecDepth 100000 in
theorem lifted (os : Os) (started : os.Started) (H : Type) (enc : TypeId × Value → H) :
    ReturnsInHanded {} Try.checked os 3 .any (Rows.fnWindowSpec.pre6 enc Try.prog Try.f3 Rows.fnWindowRow.domain false) (Rows.fnWindowSpec.post enc Try.prog Try.f3 false true false false) := by
  refine returnsInHanded_of_change (C := Try.checked) own started (by kernel_rfl) Try.func3
    (ChangeSpec.witness6 (enc := enc) (C := Try.checked) false ⟨#[], #[.slice none 0 0], []⟩ 8 (by kernel_rfl) (by kernel_rfl) (by kernel_rfl) (by kernel_rfl)) ?_
  intro W base args ds gs before hval0 hW hcnd _
  have hval : ∀ (j : Nat) t v, Try.f3.params[j]? = some t → args[j]? = some v → Value.okWide Try.prog W .any base t v := hval0
  have hW' := hW
  obtain ⟨p, q, hA0, hV, rfl, hfz, hnd⟩ := hW
  have hA : DataW.TrodAll enc Try.prog W 0 (fun _ => true) true Try.f3.params.toList args.toList ds p := hA0
  rw [Try.params3] at hA hval
  obtain ⟨v0, vs0, d0, ds0, p0, q0, hargs, rfl, rfl, h0, r0⟩ := trodAll_cons hA
  obtain ⟨rfl, rfl, rfl⟩ := trodAll_nil r0
  obtain rfl : args = #[v0] := by cases args; simp_all
  obtain ⟨rfl, rfl⟩ := trodVars_none hV
  obtain ⟨a0, len0, cap0, rfl⟩ := okWide_slice Try.underlying22 (hval 0 22 v0 rfl rfl)
  have k0 := h0
  have lt0 : ∀ x ∈ p0, x.block < W.heap.size := by obtain ⟨m, hm⟩ := k0; exact DataW.trod_lt m _ _ _ hm
  obtain ⟨z0, w0⟩ : ∃ zs, IsRow .u8 W a0 len0 cap0 zs := by
    obtain ⟨fuel, hf⟩ := h0
    rcases open_ints Try.underlying22 Try.underlying5 (by kernel_rfl) hf with ⟨hcs, _⟩ | ⟨x, l, c, zs, hcs, _, hl, hm, hz, _, hcell, hwz⟩
    · simp [Value.cells] at hcs
      obtain ⟨rfl, rfl, rfl⟩ := hcs
      exact ⟨[], .inl ⟨rfl, rfl, rfl, rfl⟩⟩
    · simp [Value.cells] at hcs
      obtain ⟨rfl, rfl, rfl⟩ := hcs
      exact ⟨zs, .inr ⟨_, rfl, hl, hm, by simpa using hz, hcell, hwz⟩⟩
  clear hA0 hval0
  refine (walk a0 len0 cap0 z0 W w0).mono fun e W' ⟨he, bel⟩ => ?_
  subst he
  exact ⟨_, rfl, _, _, _, [], _, [], hW', trodAll_mk1 (shut_bool Try.underlying4 _), (trodAll_cons_mk (Below.trod laidOut (by kernel_rfl) (of_decide_eq_true (by kernel_rfl)) k0 bel lt0) trodAll_mk0), rfl, bel.frame _, fun h => by cases h⟩
theorem over : Rows.fnWindowRow.holds Try.pinned (OpenSpec.ofChange Rows.fnWindowSpec) :=
  OpenClaim.holds_of_wide 3 Try.f3 rfl rfl rfl rfl rfl rfl rfl ⟨rfl, rfl, rfl, rfl, rfl⟩ rfl rfl rfl rfl rfl (by kernel_rfl) Try.func3 (by kernel_rfl)
    (of_decide_eq_true (by kernel_rfl)) (by unfold Func.isWrapper; first | (rw [if_pos (by decide +kernel)]; kernel_rfl) | (rw [if_neg (by decide +kernel)]; exact ⟨rfl, rfl⟩))
    (fun os started H enc _ => lifted os started H enc)
end fnWindow
theorem fnWindow_holds : Rows.FnWindowSaid := fnWindow.over
#print axioms fnWindow_holds
end Go.Proofs.Ytcnkjibcjleleaa
