/- Contracts of the model's pick and spoil. -/
import Derived.Test.YtbhionebejnbgaaWords
import Derived.Deep.CutRange
import Derived.Deep.QuietTactic
import Derived.BigQuiet
namespace Go.Proofs.Ytbhionebejnbgaa
open Go.ChangeShapes Go.WideShapes Go.ChangeAt Go.RowKit
set_option maxHeartbeats 1000000 in
theorem pick_any (B g n cap : Nat) (T : List ByteArray) (w : World) (hn : 1 < n) (hn2 : n ≤ 1000) (hT : T.length = n) (hg : g ≠ B) (hc : ∀ (i : Nat) (t : ByteArray), T[i]? = some t → w.cell? ⟨g, i, none⟩ = some (.string t)) (hS : IsSrc B w) :
    Calls Try.prog 45 #[.pointer (some ⟨B, 0, none⟩), .slice (some ⟨g, 0, none⟩) n cap] w fun e w' => ∃ s, e = .returned (.string s) ∧ s ∈ T ∧ IsSrc B w' ∧ Keep B w w' := by
  have HS : Hid (IsSrc B w ∧ ∀ (i : Nat) (t : ByteArray), T[i]? = some t → w.cell? ⟨g, i, none⟩ = some (.string t)) := ⟨hS, hc⟩
  clear hS hc
  go_enter Try.func45, Try.ntmps45
  go_wp2_with fail
  refine (n_any B (n : Int) _ (by omega) (by omega) HS.out.1).mono ?_
  rintro e w2 ⟨x, rfl, hx0, hx1, hs2, hk2⟩
  obtain ⟨i, rfl⟩ : ∃ i : Nat, x = (i : Int) := ⟨x.toNat, by omega⟩
  have hi : i < T.length := by omega
  have hc2 : w2.cell? ⟨g, i, none⟩ = some (.string T[i]) := hk2.cell (HS.out.2 i _ (List.getElem?_eq_getElem hi)) hg
  have hlt' : (i : Int) < (n : Int) := by omega
  have HN : Hid (IsSrc B w2 ∧ Keep B w w2 ∧ T[i] ∈ T) := ⟨hs2, hk2, List.getElem_mem hi⟩
  clear hs2 hk2
  go_wp2
  go_ret
  exact ⟨_, rfl, HN.out.2.2, HN.out.1, HN.out.2.1⟩
theorem conv1s (W : World) (x : Int) : (convert 22 9 (.slice (some ⟨W.heap.size, 0, none⟩) 1 1)).run Try.prog (W.alloc (.cells #[.int .u8 x] 5)) = .ok (.string (strOfNums [x])) (W.alloc (.cells #[.int .u8 x] 5)) :=
  run_convert_bytes_arg _ 22 5 Try.underlying22 Try.underlying5 W.heap.size 0 1 1 [x] rfl (fun i hi => by
    rcases i with _ | i
    · simp [go_sem]
    · omega) 9 Try.underlying9
set_option maxHeartbeats 1000000 in
theorem n_pos (B : Nat) (most : Int) (w : World) (hm : 1 ≤ most) (hm2 : most ≤ 9223372036854775807) (hS : IsSrc B w) :
    Calls Try.prog 38 #[.pointer (some ⟨B, 0, none⟩), .int .i64 most] w (Drawn B w most) := by
  by_cases h1 : 1 < most
  · exact n_any B most w h1 hm2 hS
  · obtain rfl : most = 1 := by omega
    have HS : Hid (IsSrc B w) := hS
    clear hS
    go_enter Try.func38, Try.ntmps38
    go_wp2
    go_ret
    exact ⟨0, rfl, by omega, by omega, HS.out, Keep.refl _ _⟩
set_option maxRecDepth 20000 in
set_option maxHeartbeats 2000000 in
theorem spoil_any (B : Nat) (t : ByteArray) (w : World) (ht : t.size ≤ 100000) (hS : IsSrc B w) :
    Calls Try.prog 36 #[.pointer (some ⟨B, 0, none⟩), .string t] w fun e w' => ∃ s, e = .returned (.string s) ∧ s.size ≤ t.size + 1 ∧ IsSrc B w' ∧ Keep B w w' := by
  have HS : Hid (IsSrc B w) := hS
  clear hS
  have ht' : (t.size : Int) ≤ 100000 := by omega
  go_enter Try.func36, Try.ntmps36
  go_wp2_with fail
  refine (n_pos B ((t.size : Int) + 1) _ (by omega) (by omega) HS.out).mono ?_
  rintro e w1 ⟨x, rfl, hx0, hx1, hs1, hk1⟩
  obtain ⟨k, rfl⟩ : ∃ k : Nat, x = (k : Int) := ⟨x.toNat, by omega⟩
  have H1 : Hid (IsSrc B w1 ∧ Keep B w w1) := ⟨hs1, hk1⟩
  clear hs1 hk1
  go_upto_region 2 with fail
  go_cut [6] from 7 to 16 (fun c wx => ∃ s1 : ByteArray, c = .string s1 ∧ s1.size = 1 ∧ IsSrc B wx ∧ Keep B w wx)
  case first =>
    go_wp2_with fail
    refine (n_any B 17 _ (by omega) (by omega) H1.out.1).mono ?_
    rintro e w2 ⟨y, rfl, hy0, hy1, hs2, hk2⟩
    obtain ⟨j, rfl⟩ : ∃ j : Nat, y = (j : Int) := ⟨y.toNat, by omega⟩
    have H2 : Hid (IsSrc B w2 ∧ Keep B w w2) := ⟨hs2, H1.out.2.trans hk2⟩
    have hcv := conv1s w2
    have hBl := hs2.lt
    clear hs2 hk2 H1
    go_wp2_with fail
    go_meet
    case rel => exact ⟨_, rfl, by rw [strOfNums_size]; rfl, H2.out.1.below ((Below.refl _ _).alloc (by omega) _), H2.out.2.alloc _⟩
  case rest =>
    obtain ⟨s1, rfl, hs1, hsrc, hkp⟩ := hcut
    have HK : Hid (IsSrc B wc ∧ Keep B w wc) := ⟨hsrc, hkp⟩
    clear hsrc hkp H1
    have z1 : (t.extract 0 k).size ≤ 100000 := by rw [ByteArray.size_extract]; omega
    have z2 : (t.extract k t.size).size ≤ 100000 := by rw [ByteArray.size_extract]; omega
    have z3 : (t.extract (k + 1) t.size).size ≤ 100000 := by rw [ByteArray.size_extract]; omega
    have hkt : (k : Int) ≤ (t.size : Int) := by omega
    by_cases hk : k = t.size
    · have dk : ((k : Int) == (t.size : Int)) = true := by rw [beq_iff_eq]; omega
      go_wp2_with fail
      go_quiet (fail)
      go_wp2
      go_ret
      exact ⟨_, rfl, by simp only [ByteArray.size_append]; omega, HK.out.1.below (below_drewN (Below.refl _ _) _), HK.out.2.drewN _⟩
    · have dk : ((k : Int) == (t.size : Int)) = false := by rw [beq_eq_false_iff_ne]; omega
      have hkl : (k : Int) + 1 ≤ (t.size : Int) := by omega
      go_wp2_with fail
      refine (one_any B 3 _ (by omega) (by omega) HK.out.1).mono ?_
      rintro e w3 ⟨b1, rfl, hs3, hk3⟩
      have H3 : Hid (IsSrc B w3 ∧ Keep B w w3) := ⟨hs3, HK.out.2.trans hk3⟩
      clear hs3 hk3
      cases b1
      · go_wp2_with fail
        refine (one_any B 2 _ (by omega) (by omega) H3.out.1).mono ?_
        rintro e w4 ⟨b2, rfl, hs4, hk4⟩
        have H4 : Hid (IsSrc B w4 ∧ Keep B w w4) := ⟨hs4, H3.out.2.trans hk4⟩
        clear hs4 hk4
        cases b2
        · go_wp2_with fail
          go_quiet (fail)
          go_wp2
          go_ret
          exact ⟨_, rfl, by simp only [ByteArray.size_append, ByteArray.size_extract]; omega, H4.out.1.below (below_drewN (Below.refl _ _) _), H4.out.2.drewN _⟩
        · go_wp2_with fail
          go_quiet (fail)
          go_wp2
          go_ret
          exact ⟨_, rfl, by simp only [ByteArray.size_append, ByteArray.size_extract]; omega, H4.out.1.below (below_drewN (Below.refl _ _) _), H4.out.2.drewN _⟩
      · go_wp2_with fail
        go_quiet (fail)
        go_wp2
        go_ret
        exact ⟨_, rfl, by simp only [ByteArray.size_append, ByteArray.size_extract]; omega, H3.out.1.below (below_drewN (Below.refl _ _) _), H3.out.2.drewN _⟩
end Go.Proofs.Ytbhionebejnbgaa
