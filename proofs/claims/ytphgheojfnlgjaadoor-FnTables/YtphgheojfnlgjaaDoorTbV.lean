/- Contract of the model's l04Value: some text of at most a hundred bytes. -/
import Derived.Test.YtphgheojfnlgjaaDoorDrawPick
import Derived.Test.YtphgheojfnlgjaaDoorSrcPl
import Derived.Test.YtphgheojfnlgjaaDoorDecS
import Derived.Test.YtphgheojfnlgjaaDoorIxDa
namespace Go.Proofs.YtphgheojfnlgjaaDoor
open Go.ChangeShapes Go.WideShapes Go.ChangeAt Go.RowKit Go.Shelf
theorem cells_list (w : World) (T : List ByteArray) (t : Nat) (g : Nat) (hg : g = w.heap.size) : ∀ (i : Nat) (s : ByteArray), T[i]? = some s → (w.alloc (.cells (T.map Value.string).toArray t)).cell? ⟨g, i, none⟩ = some (.string s) := by
  subst hg
  intro i s hs
  rw [cell_of_row _ _ _ _ _ _ (World.alloc_heap_new w _)]
  simp [hs]
theorem decS_some (n : Int) (h0 : -25 ≤ n) (h1 : n ≤ 300) : (decS n).size ≤ 100 := by
  by_cases h : 0 ≤ n
  · exact Nat.le_trans (decS_size n h (by omega)) (by decide)
  · have : n = -25 ∨ n = -24 ∨ n = -23 ∨ n = -22 ∨ n = -21 ∨ n = -20 ∨ n = -19 ∨ n = -18 ∨ n = -17 ∨ n = -16 ∨ n = -15 ∨ n = -14 ∨ n = -13 ∨ n = -12 ∨ n = -11 ∨ n = -10 ∨ n = -9 ∨ n = -8 ∨ n = -7 ∨ n = -6 ∨ n = -5 ∨ n = -4 ∨ n = -3 ∨ n = -2 ∨ n = -1 := by omega
    rcases this with rfl | rfl | rfl | rfl | rfl | rfl | rfl | rfl | rfl | rfl | rfl | rfl | rfl | rfl | rfl | rfl | rfl | rfl | rfl | rfl | rfl | rfl | rfl | rfl | rfl <;> decide +kernel
theorem words_v (B : Nat) (a b c d : Int) (x : Int) (w : World) (hx : 0 ≤ x ∧ x ≤ 60) (hS : IsSrc B w) :
    Calls Tryd.prog 31 #[.pointer (some ⟨B, 0, none⟩), .agg #[.int .i64 a, .int .i64 b, .int .i64 c, .int .i64 d], .int .i64 x] w fun e w' => ∃ s, e = .returned (.string s) ∧ s.size ≤ 60 ∧ IsSrc B w' ∧ Keep B w w' := by
  obtain ⟨n, rfl⟩ : ∃ n : Nat, x = (n : Int) := ⟨x.toNat, by omega⟩
  refine (words_any B a b c d n w (by omega) hS).mono ?_
  rintro e w' ⟨s, rfl, h1, h2, h3⟩
  exact ⟨s, rfl, by omega, h2, h3⟩
set_option maxRecDepth 20000 in
set_option maxHeartbeats 4000000 in
theorem l04Value_any (B : Nat) (c : Int) (w : World) (hS : IsSrc B w) :
    Calls Tryd.prog 22 #[.pointer (some ⟨B, 0, none⟩), .int .u8 c] w fun e w' => ∃ s, e = .returned (.string s) ∧ s.size ≤ 100 ∧ IsSrc B w' ∧ Keep B w w' := by
  have hlt := hS.lt
  have HS : Hid (IsSrc B w) := hS
  clear hS
  by_cases h1 : c = 114
  · subst h1
    go_enter Tryd.func22, Tryd.ntmps22
    go_wp2_with fail
    refine (pick_any B w.heap.size 6 6 [⟨#[80, 79, 45, 49]⟩, ⟨#[80, 79, 45, 50]⟩, ⟨#[66, 79, 76, 84]⟩, ⟨#[78, 85, 84]⟩, ⟨#[71, 69, 65, 82]⟩, ⟨#[82, 55]⟩] _ (by omega) (by omega) rfl (by omega) (cells_list w _ 9 _ rfl) (HS.out.below ((Below.refl _ _).alloc (by omega) _))).mono ?_
    rintro e w1 ⟨s, rfl, hs, hs1, hk1⟩
    have H1 : Hid (s.size ≤ 100 ∧ IsSrc B w1 ∧ Keep B w w1) := by
      refine ⟨?_, hs1, ((Keep.refl _ _).alloc _).trans hk1⟩
      simp only [List.mem_cons, List.not_mem_nil, or_false] at hs
      rcases hs with rfl | rfl | rfl | rfl | rfl | rfl <;> decide +kernel
    clear hs hs1 hk1
    go_wp2
    go_ret
    exact ⟨s, rfl, H1.out⟩
  by_cases h2 : c = 110 ∨ c = 113
  · have HN : Hid (∀ (W W' : World) (q : Int), Keep B w W' → 0 ≤ q → q < 30 → IsSrc B W' → Calls Tryd.prog 30 #[.int .i64 (1 + q)] W' fun e w' => ∃ s, e = .returned (.string s) ∧ s.size ≤ 100 ∧ IsSrc B w' ∧ Keep B w w') := fun W W' q hk h0 h1 hs => by
      refine (l01Dec_any (1 + q) W' (by omega) (by omega)).mono ?_
      rintro e w' ⟨rfl, hb⟩
      have := hs.lt
      exact ⟨_, rfl, decS_some _ (by omega) (by omega), hs.below (hb.mono (by omega)), hk.trans (Keep.of_below hb)⟩
    rcases h2 with rfl | rfl
    all_goals
      go_enter Tryd.func22, Tryd.ntmps22
      go_wp2_with fail
      refine (n_any B 30 _ (by omega) (by omega) HS.out).mono ?_
      rintro e w1 ⟨q, rfl, hq0, hq1, hs1, hk1⟩
      have H1 : Hid (IsSrc B w1 ∧ Keep B w w1) := ⟨hs1, hk1⟩
      clear hs1 hk1
      go_wp2_with fail
      refine (HN.out w w1 q H1.out.2 hq0 hq1 H1.out.1).mono ?_
      rintro e w2 ⟨s, rfl, hz, hs2, hk2⟩
      have H2 : Hid (s.size ≤ 100 ∧ IsSrc B w2 ∧ Keep B w w2) := ⟨hz, hs2, hk2⟩
      clear hz hs2 hk2
      go_wp2
      go_ret
      exact ⟨s, rfl, H2.out⟩
  have h3 : ¬ c = 110 := fun h => h2 (.inl h)
  have h4 : ¬ c = 113 := fun h => h2 (.inr h)
  clear h2
  by_cases h5 : c = 122
  · subst h5
    clear h1 h3 h4
    go_enter Tryd.func22, Tryd.ntmps22
    go_wp2_with fail
    refine (n_any B 20 _ (by omega) (by omega) HS.out).mono ?_
    rintro e w1 ⟨q, rfl, hq0, hq1, hs1, hk1⟩
    have H1 : Hid (IsSrc B w1 ∧ Keep B w w1) := ⟨hs1, hk1⟩
    have hl1 := hs1.lt
    clear hs1 hk1
    go_wp2_with fail
    refine (l01Dec_any (q - 25) w1 (by omega) (by omega)).mono ?_
    rintro e w2 ⟨rfl, hb2⟩
    have H2 : Hid ((decS (q - 25)).size ≤ 100 ∧ IsSrc B w2 ∧ Keep B w w2) := ⟨decS_some _ (by omega) (by omega), H1.out.1.below (hb2.mono (by omega)), H1.out.2.trans (Keep.of_below hb2)⟩
    clear hb2
    go_wp2
    go_ret
    exact ⟨_, rfl, H2.out⟩
  by_cases h6 : c = 100
  · subst h6
    clear h1 h3 h4 h5
    go_enter Tryd.func22, Tryd.ntmps22
    go_wp2_with fail
    refine (n_any B 300 _ (by omega) (by omega) HS.out).mono ?_
    rintro e w1 ⟨q, rfl, hq0, hq1, hs1, hk1⟩
    have H1 : Hid (IsSrc B w1 ∧ Keep B w w1) := ⟨hs1, hk1⟩
    have hl1 := hs1.lt
    clear hs1 hk1
    go_wp2_with fail
    refine (l01Dec_any q w1 (by omega) (by omega)).mono ?_
    rintro e w2 ⟨rfl, hb2⟩
    have H2 : Hid ((decS q).size ≤ 100 ∧ IsSrc B w2 ∧ Keep B w w2) := ⟨decS_some _ (by omega) (by omega), H1.out.1.below (hb2.mono (by omega)), H1.out.2.trans (Keep.of_below hb2)⟩
    clear hb2
    go_wp2
    go_ret
    exact ⟨_, rfl, H2.out⟩
  go_enter Tryd.func22, Tryd.ntmps22
  go_wp2_with fail
  refine (plain_any _).mono ?_
  rintro e w1 ⟨rfl, hb1⟩
  have H1 : Hid (IsSrc B w1 ∧ Keep B w w1) := ⟨HS.out.below (hb1.mono (by omega)), Keep.of_below hb1⟩
  clear hb1
  go_wp2_with fail
  refine (n_any B 5 _ (by omega) (by omega) H1.out.1).mono ?_
  rintro e w2 ⟨q, rfl, hq0, hq1, hs2, hk2⟩
  have H2 : Hid (IsSrc B w2 ∧ Keep B w w2) := ⟨hs2, H1.out.2.trans hk2⟩
  clear hs2 hk2
  go_wp2_with fail
  refine (words_v B 39 43 58 63 (1 + q) w2 (by omega) H2.out.1).mono ?_
  rintro e w3 ⟨s, rfl, hz, hs3, hk3⟩
  have H3 : Hid (s.size ≤ 100 ∧ IsSrc B w3 ∧ Keep B w w3) := ⟨by omega, hs3, H2.out.2.trans hk3⟩
  clear hz hs3 hk3
  go_wp2
  go_ret
  exact ⟨s, rfl, H3.out⟩
end Go.Proofs.YtphgheojfnlgjaaDoor
