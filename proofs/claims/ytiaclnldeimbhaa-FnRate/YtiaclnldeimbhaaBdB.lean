/- Contract of the model's l10Book. -/
import Derived.Test.YtiaclnldeimbhaaBdA
import Derived.Test.YtiaclnldeimbhaaDecS
import Derived.Deep.RegionLaw
import Derived.Deep.RegionHeld3
import Derived.Deep.Cut
import Derived.Deep.CutRange
import Derived.Laws.Concat
namespace Go.Proofs.Ytiaclnldeimbhaa
open Go.ChangeShapes Go.WideShapes Go.ChangeAt Go.RowKit
/-- What the draw of a book tells. -/
def BkOut (B : Nat) (w : World) (e : Ending) (w' : World) : Prop := ∃ us ul p, e = .returned (.agg #[us, ul]) ∧ DBk B w w' us ul p
theorem DB.start {B : Nat} {w W0 w1 : World} {v : Value} {rs : List OLn} (hW0 : w.alloc (.cells #[.slice none 0 0, .slice none 0 0] 26) = W0) (h : QLn B W0 w1 v rs) (hB : B < w.heap.size) (hl : rs.length ≤ 250) : DB B w1.heap.size w (w1.alloc (.cells #[.slice none 0 0, v] 26)) (.slice none 0 0) v ⟨[], rs⟩ := by
  have ha : Below w1.heap.size w1 (w1.alloc (.cells #[.slice none 0 0, v] 26)) := (Below.refl _ _).alloc (Nat.le_refl _) _
  have hz0 : W0.heap.size = w.heap.size + 1 := by rw [← hW0]; simp
  have hr0 : W0.heap[w.heap.size]? = some (.cells #[.slice none 0 0, .slice none 0 0] 26) := by rw [← hW0]; exact World.alloc_heap_new _ _
  have hk0 : Keep B w W0 := by rw [← hW0]; exact (Keep.refl _ _).alloc _
  have hz1 := h.kp.size
  refine ⟨⟨h.src.below (ha.mono h.src.lt), (hk0.trans h.kp).trans (Keep.of_below ha), hB, ?_, by omega, World.alloc_heap_new _ _, World.ownsRow_nil _ _ _ _, h.row.below ha, ?_, (fun g hg => by cases hg), h.sm, hl⟩, fun _ _ _ _ _ => by simp [Value.ownBlock]⟩
  · refine (ha.block _ (by omega)).trans ((h.kp.block _ (by omega) (by omega)).trans hr0)
  · intro hne ad L C e
    obtain ⟨ad', C', e', hg⟩ := h.sh
    rw [e'] at e
    simp only [Value.slice.injEq, Option.some.injEq] at e
    obtain ⟨rfl, _⟩ := e
    refine ⟨by omega, ?_⟩
    obtain ⟨A', C2, e3, hc⟩ := h.row.shape
    obtain ⟨b, o, e4, hcell⟩ := hc hne
    rw [e', e4] at e3
    simp only [Value.slice.injEq, Option.some.injEq] at e3
    cases h0 : rs with
    | nil => exact absurd h0 hne
    | cons x r =>
      have := cell_lt (hcell 0 x (by rw [h0]; rfl)).1
      rw [e3.1]
      show b ≠ _
      omega
set_option maxRecDepth 100000 in
set_option maxHeartbeats 8000000 in
theorem l10Book_any (B : Nat) (w : World) (hS : IsSrc B w) : Calls Try.prog 14 #[.pointer (some ⟨B, 0, none⟩)] w (BkOut B w) := by
  have hB := hS.lt
  obtain ⟨W0, hW0⟩ : ∃ W0, w.alloc (.cells #[.slice none 0 0, .slice none 0 0] 26) = W0 := ⟨_, rfl⟩
  have H0 : Hid (IsSrc B W0) := by
    rw [← hW0]
    exact hS.below (((Below.refl _ _).alloc (Nat.le_refl _) _).mono hB)
  clear hS
  obtain ⟨j0, hj0i, hi0, hi1, hi2⟩ := info_parts infoStA
  go_enter Try.func14, Try.ntmps14
  go_upto_region 1 with fail
  try rw [hW0]
  have HW0 : Hid (w.alloc (.cells #[.slice none 0 0, .slice none 0 0] 26) = W0) := hW0
  clear hW0
  go_wp2_with fail
  refine (l09Lines_any B _ H0.out).mono ?_
  rintro e w1 ⟨ul, rs, rfl, hq, hl1⟩
  obtain ⟨ad0, C0, e0, _⟩ := hq.sh
  subst e0
  have H1 := DB.start HW0.out hq hB hl1
  obtain ⟨W1, hW1⟩ : ∃ W1, w1.alloc (.cells #[.slice none 0 0, .slice (some ad0) rs.length C0] 26) = W1 := ⟨_, rfl⟩
  obtain ⟨P, hP⟩ : ∃ P, P = w1.heap.size := ⟨_, rfl⟩
  rw [hW1, ← hP] at H1
  have HW1 : Hid (w1.alloc (.cells #[.slice none 0 0, .slice (some ad0) rs.length C0] 26) = W1 ∧ P = w1.heap.size) := ⟨hW1, hP⟩
  have H2 : Hid (DB B P w W1 (.slice none 0 0) (.slice (some ad0) rs.length C0) ⟨[], rs⟩) := H1
  clear hW1 hP H1 hq HW0 H0
  go_upto_region 2 with fail
  try rw [HW1.out.1]
  try rw [← HW1.out.2]
  clear HW1
  go_wp2_with fail
  refine (n_any B 5 _ (by omega) (by omega) H2.out.src).mono ?_
  rintro e w2 ⟨n, rfl, n0, n1, s2, k2⟩
  have H3 : Hid (DB B P w w2 (.slice none 0 0) (.slice (some ad0) rs.length C0) ⟨[], rs⟩) := H2.out.keep k2 s2
  clear s2 k2 H2 hl1
  obtain ⟨n, rfl⟩ : ∃ m : Nat, n = (m : Int) := ⟨n.toNat, by omega⟩
  have hn5 : n ≤ 5 := by omega
  clear n0 n1
  go_wp2_with fail
  go_loopw [4] (fun i wr => ∃ (k : Nat) (us ul : Value) (p : Bk), i = .int .i64 (k : Int) ∧ k ≤ n ∧ p.stocks.length + k ≤ n ∧ DB B P w wr us ul p) (fun i _ => (RowKit.intOf i).toNat)
  case atStart => exact ⟨n, _, _, ⟨[], rs⟩, rfl, by omega, by simp, H3.out⟩
  case round =>
    clear H3
    obtain ⟨k, us, ul, p, rfl, hk, hpl, hq⟩ := hrel
    obtain ⟨A, C, A', C', rfl, rfl⟩ := (hq.row (by omega)).val
    have HQ : Hid (DB B P w wr (.slice A p.stocks.length C) (.slice A' p.lines.length C') p) := hq
    clear hq
    by_cases h0 : 0 < k
    · have h0' : (0 : Int) < (k : Int) := by omega
      obtain ⟨y0, y1⟩ := box2 HQ.out.box
      have HQd : Hid (DB B P w wr.drew (.slice A p.stocks.length C) (.slice A' p.lines.length C') p) := HQ.out.below (Below.refl _ _).drew
      go_upto_region 5 with fail
      go_region_law (first | (go_simp; go_at_call 29; refine (l10Move_any p _ _ t z _ (H5.out.row (by omega)) ((H5.out.bd (by omega)).mono (by omega)) (by omega)).mono ?_; rintro e w6 ⟨us', ul', ok, rfl, o1, o2, hb6, _⟩; obtain ⟨A6, C6, rfl⟩ := own_val o1; obtain ⟨A7, C7, rfl⟩ := own_val o2; have hf := mov_facts (z := z) H5.out.bs (show t.size ≤ 30 by omega); have H6 := H5.out.put hb6 o1 (by rw [hf.1]; exact o2) hf.2.2 (by rw [hf.1]; exact H5.out.bl) (by rw [hf.1]; exact H5.out.nl); have hf2 := hf.2.1; clear hf o1 o2 hb6; have H6b : Hid _ := H6.2; obtain ⟨u0, u1⟩ := box2 H6.1; have uf := frz2 H6.1; clear H6; try dsimp only) | (go_simp; go_at_call 30; refine (l10Item_any B _ HN1.out.src).mono ?_; rintro e w5 ⟨t, rfl, ht, s5, k5⟩; have H5 : Hid (DB B P w w5 (.slice A p.stocks.length C) (.slice A' p.lines.length C') p) := HN1.out.keep k5 s5; clear s5 k5; obtain ⟨m0, m1⟩ := box2 H5.out.box; try dsimp only) | (go_simp; go_at_call 28; refine (n_any B 60 _ (by omega) (by omega) HI1.out.src).mono ?_; rintro e w5 ⟨z, rfl, z0, z1, s5, k5⟩; have H5 : Hid (DB B P w w5 (.slice A p.stocks.length C) (.slice A' p.lines.length C') p) := HI1.out.keep k5 s5; clear s5 k5; obtain ⟨m0, m1⟩ := box2 H5.out.box; try dsimp only) | (go_simp; go_at_call 30; refine (l10Item_any B _ HQd.out.src).mono ?_; rintro e w4 ⟨t, rfl, ht, s4, k4⟩; have HI1 : Hid (DB B P w w4 (.slice A p.stocks.length C) (.slice A' p.lines.length C') p) := HQd.out.keep k4 s4; clear s4 k4; obtain ⟨n0, n1⟩ := box2 HI1.out.box; try dsimp only) | (go_simp; go_at_call 28; refine (n_any B 60 _ (by omega) (by omega) HQd.out.src).mono ?_; rintro e w4 ⟨z, rfl, z0, z1, s4, k4⟩; have HN1 : Hid (DB B P w w4 (.slice A p.stocks.length C) (.slice A' p.lines.length C') p) := HQd.out.keep k4 s4; clear s4 k4; obtain ⟨n0, n1⟩ := box2 HN1.out.box; try dsimp only) | fail)
      all_goals
        clear uf u0 u1
        go_wp2_with fail
        go_roundw
        case rel => exact ⟨k - 1, _, _, _, by go_num, by omega, by omega, H6b.out⟩
        case measure => simp [RowKit.intOf]; omega
    · obtain rfl : k = 0 := by omega
      go_upto_region 6 with fail
      go_wp2_with fail
      refine (one_any B 15 _ (by omega) (by omega) HQ.out.src).mono ?_
      rintro e w7 ⟨on, rfl, s7, k7⟩
      have H7 : Hid (DB B P w w7 (.slice A p.stocks.length C) (.slice A' p.lines.length C') p) := HQ.out.keep k7 s7
      clear s7 k7 HQ
      cases on with
      | false =>
        obtain ⟨y0, y1⟩ := box2 H7.out.box
        obtain ⟨z0, z1⟩ := box2 H7.out.rb
        have zf := frz2 H7.out.rb
        have HE : Hid _ := H7.out.fin (by omega)
        go_wp2
        obtain ⟨f0, f1⟩ := box2 HE.out.2
        exact bodyPost_ret (v := .agg #[_, _]) (by first | (simp [results, Try.results14, go_sem, f0, f1]; done) | (simp [results, Try.results14, go_sem, z0, z1]; done)) rfl ⟨_, _, _, rfl, HE.out.1⟩
      | true =>
        go_wp2_with fail
        refine (n_any B 4 _ (by omega) (by omega) H7.out.src).mono ?_
        rintro e w8 ⟨m, rfl, m0, m1, s8, k8⟩
        have H8 : Hid (DB B P w w8 (.slice A p.stocks.length C) (.slice A' p.lines.length C') p) := H7.out.keep k8 s8
        have HQd : Hid (DB B P w w8.drew (.slice A p.stocks.length C) (.slice A' p.lines.length C') p) := H8.out.below (Below.refl _ _).drew
        clear s8 k8 H7
        obtain ⟨y0, y1⟩ := box2 H8.out.box
        by_cases c0 : m = 0
        · subst c0
          go_upto_region 14 with fail
          go_region_law (first | (go_simp; go_at_call 30; refine (l10Item_any B _ HQd.out.src).mono ?_; rintro e w9 ⟨t, rfl, ht, s9, k9⟩; have H9 : Hid (DB B P w w9 (.slice A p.stocks.length C) (.slice A' p.lines.length C') p) := HQd.out.keep k9 s9; clear s9 k9; obtain ⟨n0, n1⟩ := box2 H9.out.box; have HX : Hid (DB B P w (w9.alloc (.cells #[.string t, .int .i64 0] 49)) (.slice A p.stocks.length C) (.slice A' p.lines.length C') p) := H9.out.below ((Below.refl _ _).alloc (Nat.le_refl _) _); have rowN := HX.out.own; have hsN : w.heap.size + 1 ≤ (w9.alloc (.cells #[.string t, .int .i64 0] 49)).heap.size := (by have := (Array.getElem?_eq_some_iff.1 HX.out.rb).1; omega); have hmx : p.stocks.length + 1 ≤ maxLen := (by unfold maxLen; omega); have hsz : ∀ x ∈ p.stocks ++ [Stk.mk t 0], x.item.size ≤ 30 := (by intro x hx; rcases List.mem_append.1 hx with hx | hx; exact HX.out.bs x hx; rw [List.mem_singleton.1 hx]; first | (show t.size ≤ 30; omega) | (show (⟨#[90, 90, 90]⟩ : ByteArray).size ≤ 30; decide) | (show (⟨#[122, 122]⟩ : ByteArray).size ≤ 30; decide)); obtain ⟨v0, v1⟩ := box2 HX.out.box; try dsimp only) | (refine step_append_lies _ (by rfl) _ _ _ (by rfl) (w.heap.size + 1) 49 j0 _ 2 24 Try.underlying23 hj0i hi0 hi1 hi2 rfl (by omega) (.slice A p.stocks.length C) p.stocks.length (clSts p.stocks) (by rfl) rowN ⟨w9.heap.size, 0, none⟩ 1 1 (clSt (Stk.mk t 0)) (by rfl) (by rfl) (World.news_of_block (cs := #[.string t, .int .i64 0]) (t := 49) (fr := (0, 0)) (World.alloc_heap_new w9 _)) (by simp [Value.oneCell', clSt]) (by omega) hmx (by omega) hsN (w9.heap.size + 1) (by simp) ?_; intro gg cap w10 hown10 hgrow10 hat10 hlt10; have HG := HX.out.app hgrow10 (ts := p.stocks ++ [(Stk.mk t 0)]) (by rw [clSts_app]; exact hown10) (by simp) hsz; obtain ⟨u0, u1⟩ := box2 HG.1; have uf := frz2 HG.1; have H10 : Hid _ := HG.2; clear HG hown10 hgrow10 hat10 hlt10; try dsimp only) | fail)
          all_goals
            clear u0 u1 uf y0 y1 v0 v1
            obtain ⟨y0, y1⟩ := box2 H10.out.box
            obtain ⟨z0, z1⟩ := box2 H10.out.rb
            have zf := frz2 H10.out.rb
            have HE : Hid _ := H10.out.fin (by simp; omega)
            go_wp2
            obtain ⟨f0, f1⟩ := box2 HE.out.2
            exact bodyPost_ret (v := .agg #[_, _]) (by first | (simp [results, Try.results14, go_sem, f0, f1]; done) | (simp [results, Try.results14, go_sem, z0, z1]; done)) rfl ⟨_, _, _, rfl, HE.out.1⟩
        · by_cases c1 : m = 1
          · subst c1
            go_upto_region 16 with fail
            go_region_law (first | (go_simp; go_at_call 28; refine (n_any B 2 _ (by omega) (by omega) HQd.out.src).mono ?_; rintro e w9 ⟨z, rfl, z0, z1, s9, k9⟩; have H9 : Hid (DB B P w w9 (.slice A p.stocks.length C) (.slice A' p.lines.length C') p) := HQd.out.keep k9 s9; clear s9 k9; obtain ⟨n0, n1⟩ := box2 H9.out.box; have HX : Hid (DB B P w (w9.alloc (.cells #[.string ⟨#[90, 90, 90]⟩, .int .i64 (IntKind.i64.wrap (1000000000 + z))] 49)) (.slice A p.stocks.length C) (.slice A' p.lines.length C') p) := H9.out.below ((Below.refl _ _).alloc (Nat.le_refl _) _); have rowN := HX.out.own; have hsN : w.heap.size + 1 ≤ (w9.alloc (.cells #[.string ⟨#[90, 90, 90]⟩, .int .i64 (IntKind.i64.wrap (1000000000 + z))] 49)).heap.size := (by have := (Array.getElem?_eq_some_iff.1 HX.out.rb).1; omega); have hmx : p.stocks.length + 1 ≤ maxLen := (by unfold maxLen; omega); have hsz : ∀ x ∈ p.stocks ++ [Stk.mk ⟨#[90, 90, 90]⟩ (IntKind.i64.wrap (1000000000 + z))], x.item.size ≤ 30 := (by intro x hx; rcases List.mem_append.1 hx with hx | hx; exact HX.out.bs x hx; rw [List.mem_singleton.1 hx]; first | (show t.size ≤ 30; omega) | (show (⟨#[90, 90, 90]⟩ : ByteArray).size ≤ 30; decide) | (show (⟨#[122, 122]⟩ : ByteArray).size ≤ 30; decide)); obtain ⟨v0, v1⟩ := box2 HX.out.box; try dsimp only) | (refine step_append_lies _ (by rfl) _ _ _ (by rfl) (w.heap.size + 1) 49 j0 _ 2 24 Try.underlying23 hj0i hi0 hi1 hi2 rfl (by omega) (.slice A p.stocks.length C) p.stocks.length (clSts p.stocks) (by rfl) rowN ⟨w9.heap.size, 0, none⟩ 1 1 (clSt (Stk.mk ⟨#[90, 90, 90]⟩ (IntKind.i64.wrap (1000000000 + z)))) (by rfl) (by rfl) (World.news_of_block (cs := #[.string ⟨#[90, 90, 90]⟩, .int .i64 (IntKind.i64.wrap (1000000000 + z))]) (t := 49) (fr := (0, 0)) (World.alloc_heap_new w9 _)) (by simp [Value.oneCell', clSt]) (by omega) hmx (by omega) hsN (w9.heap.size + 1) (by simp) ?_; intro gg cap w10 hown10 hgrow10 hat10 hlt10; have HG := HX.out.app hgrow10 (ts := p.stocks ++ [(Stk.mk ⟨#[90, 90, 90]⟩ (IntKind.i64.wrap (1000000000 + z)))]) (by rw [clSts_app]; exact hown10) (by simp) hsz; obtain ⟨u0, u1⟩ := box2 HG.1; have uf := frz2 HG.1; have H10 : Hid _ := HG.2; clear HG hown10 hgrow10 hat10 hlt10; try dsimp only) | fail)
            all_goals
              clear u0 u1 uf y0 y1 v0 v1
              obtain ⟨y0, y1⟩ := box2 H10.out.box
              obtain ⟨z0, z1⟩ := box2 H10.out.rb
              have zf := frz2 H10.out.rb
              have HE : Hid _ := H10.out.fin (by simp; omega)
              go_wp2
              obtain ⟨f0, f1⟩ := box2 HE.out.2
              exact bodyPost_ret (v := .agg #[_, _]) (by first | (simp [results, Try.results14, go_sem, f0, f1]; done) | (simp [results, Try.results14, go_sem, z0, z1]; done)) rfl ⟨_, _, _, rfl, HE.out.1⟩
          · by_cases c2 : m = 2
            · subst c2
              go_upto_region 18 with fail
              have HX : Hid (DB B P w (w8.alloc (.cells #[.string ⟨#[122, 122]⟩, .int .i64 0] 49)) (.slice A p.stocks.length C) (.slice A' p.lines.length C') p) := H8.out.below ((Below.refl _ _).alloc (Nat.le_refl _) _)
              have rowN := HX.out.own
              have hsN : w.heap.size + 1 ≤ (w8.alloc (.cells #[.string ⟨#[122, 122]⟩, .int .i64 0] 49)).heap.size := (by have := (Array.getElem?_eq_some_iff.1 HX.out.rb).1; omega)
              have hmx : p.stocks.length + 1 ≤ maxLen := (by unfold maxLen; omega)
              have hsz : ∀ x ∈ p.stocks ++ [Stk.mk ⟨#[122, 122]⟩ 0], x.item.size ≤ 30 := (by intro x hx; rcases List.mem_append.1 hx with hx | hx; exact HX.out.bs x hx; rw [List.mem_singleton.1 hx]; first | (show t.size ≤ 30; omega) | (show (⟨#[90, 90, 90]⟩ : ByteArray).size ≤ 30; decide) | (show (⟨#[122, 122]⟩ : ByteArray).size ≤ 30; decide))
              obtain ⟨v0, v1⟩ := box2 HX.out.box
              have hat2 : AtSt (w8.alloc (.cells #[.string ⟨#[122, 122]⟩, .int .i64 0] 49)) w8.heap.size 0 ⟨⟨#[122, 122]⟩, 0⟩ := box2 (World.alloc_heap_new w8 (.cells #[.string ⟨#[122, 122]⟩, .int .i64 0] 49))
              have hl1' : p.stocks.length + 1 ≤ 2000000 := by omega
              obtain ⟨X, hXe⟩ : ∃ X, w8.alloc (.cells #[.string ⟨#[122, 122]⟩, .int .i64 0] 49) = X := ⟨_, rfl⟩
              rw [hXe] at HX rowN hsN v0 v1 hat2
              go_upto_region 19 with (first | (at_builtin; refine wpList_appSt (base := w.heap.size + 1) (c := w8.heap.size) (C := 1) (lv := (.slice A p.stocks.length C)) (rs := p.stocks) (g := ⟨⟨#[122, 122]⟩, 0⟩) rfl (.tmp 74) (.tmp 76) rfl rfl rfl rowN hat2 hl1' hsN ?_; rintro v10 w10 hown10 hgrow10 ⟨A10, C10, rfl⟩; have e4 : (p.stocks ++ [Stk.mk ⟨#[122, 122]⟩ 0]).length = p.stocks.length + 1 := (by simp); rw [e4] at hown10; have HG := HX.out.app hgrow10 hown10 e4 hsz; clear e4; obtain ⟨u0, u1⟩ := box2 HG.1; have uf := frz2 HG.1; have H10 : Hid _ := HG.2; clear HG hown10 hgrow10; clear hXe))
              obtain ⟨W10, hW10⟩ : ∃ W10, w10.setCell ⟨P, 0, none⟩ (.slice A10 (p.stocks.length + 1) C10) = W10 := ⟨_, rfl⟩
              rw [hW10] at H10
              try rw [hW10]
              clear hW10 u0 u1 uf y0 y1 v0 v1
              obtain ⟨y0, y1⟩ := box2 H10.out.box
              obtain ⟨z0, z1⟩ := box2 H10.out.rb
              have zf := frz2 H10.out.rb
              have HE : Hid _ := H10.out.fin (by simp; omega)
              go_wp2
              obtain ⟨f0, f1⟩ := box2 HE.out.2
              exact bodyPost_ret (v := .agg #[_, _]) (by first | (simp [results, Try.results14, go_sem, f0, f1]; done) | (simp [results, Try.results14, go_sem, z0, z1]; done)) rfl ⟨_, _, _, rfl, HE.out.1⟩
            · have hown0 : (w8.alloc (.cells #[] 49)).ownsRow (w.heap.size + 1) 49 2 (.slice (some ⟨w8.heap.size, 0, none⟩) 0 0) 0 (clSts []) := ⟨rfl, .inr ⟨_, 0, #[], rfl, by have := (Array.getElem?_eq_some_iff.1 H8.out.rb).1; omega, World.alloc_heap_new _ _, Nat.le_refl _, Nat.zero_le _, rfl, rfl⟩⟩
              have HG := H8.out.appA (w' := w8.alloc (.cells #[] 49)) (v' := .slice (some ⟨w8.heap.size, 0, none⟩) 0 0) (ts := []) ⟨rfl, rfl, rfl, by simp, fun j hj _ => ((Below.refl _ w8).alloc (Nat.le_refl _) _).block j hj⟩ hown0 rfl (.inr fun j e => by cases e; exact Nat.le_refl _) (fun x hx => by cases hx)
              obtain ⟨u0, u1⟩ := box2 HG.1
              have uf := frz2 HG.1
              have H10 : Hid _ := HG.2
              clear HG hown0
              go_upto_region 9 with fail
              obtain ⟨W9, hW9⟩ : ∃ W9, (w8.alloc (.cells #[] 49)).setCell ⟨P, 0, none⟩ (.slice (some ⟨w8.heap.size, 0, none⟩) 0 0) = W9 := ⟨_, rfl⟩
              rw [hW9] at H10
              try rw [hW9]
              clear hW9 u0 u1 uf y0 y1 HQd
              go_wp2_with fail
              go_loopw [5] (fun i wr => ∃ (A1 : Option Addr) (C1 : Nat) (acc : List Stk), i = .int .i64 (acc.length : Int) ∧ acc.length ≤ 101 ∧ DB B P w wr (.slice A1 acc.length C1) (.slice A' p.lines.length C') ⟨acc, p.lines⟩) (fun i _ => 300 - (RowKit.intOf i).toNat)
              case atStart => exact ⟨_, _, [], rfl, by simp, H10.out⟩
              case round =>
                clear H10 H8
                obtain ⟨A1, C1, acc, rfl, hacc, hq⟩ := hrel
                have HQ : Hid (DB B P w wr (.slice A1 acc.length C1) (.slice A' p.lines.length C') ⟨acc, p.lines⟩) := hq
                have HQd : Hid (DB B P w wr.drew (.slice A1 acc.length C1) (.slice A' p.lines.length C') ⟨acc, p.lines⟩) := hq.below (Below.refl _ _).drew
                obtain ⟨y0, y1⟩ := box2 hq.box
                clear hq
                go_upto_region 10 with fail
                go_region_held3 (fun W => W.cell? ⟨P, 0, none⟩ = some (.slice A1 acc.length C1)) (go_keep) (first | (go_at_call 28; refine (n_any B 3 _ (by omega) (by omega) HQd.out.src).mono ?_; rintro e w11 ⟨y, rfl, yl, yh, s11, k11⟩; have H11 : Hid (DB B P w w11 (.slice A1 acc.length C1) (.slice A' p.lines.length C') ⟨acc, p.lines⟩) := HQd.out.keep k11 s11; clear s11 k11; obtain ⟨r0, r1⟩ := box2 H11.out.box) | fail)
                rename_i hHeld
                clear hHeld HQ HQd y0 y1
                have hwy : IntKind.i64.wrap (99 + y) = 99 + y := by rw [IntKind.wrap_i64]; omega
                by_cases hge : (acc.length : Int) < 99 + y
                · have ha1 : acc.length < 101 := by omega
                  have QD : Hid (∀ W, Calls Try.prog 32 #[.int .i64 (1000 + (acc.length : Int))] W fun e w' => ∃ s : ByteArray, e = .returned (.string s) ∧ s.size ≤ 6 ∧ Below W.heap.size W w') := fun W => by
                    have h := dec_small (1000 + acc.length) W (by omega)
                    rw [show ((1000 + acc.length : Nat) : Int) = 1000 + (acc.length : Int) by push_cast; rfl] at h
                    exact h
                  have hw1 : IntKind.i64.wrap (1000 + (acc.length : Int)) = 1000 + (acc.length : Int) := by rw [IntKind.wrap_i64]; omega
                  have H11d : Hid (DB B P w w11.drew (.slice A1 acc.length C1) (.slice A' p.lines.length C') ⟨acc, p.lines⟩) := H11.out.below (Below.refl _ _).drew
                  go_upto_region 12 with fail
                  go_region_law (first | (go_simp; go_at_call 32; refine (QD.out _).mono ?_; rintro e w12 ⟨s, rfl, hs, hb12⟩; have H12 : Hid (DB B P w w12 (.slice A1 acc.length C1) (.slice A' p.lines.length C') ⟨acc, p.lines⟩) := H11d.out.below hb12; clear hb12; have hcat : ∀ W, (Op.stringOp .add (⟨#[73]⟩ : ByteArray) s).run Try.prog W = .ok (.string (⟨#[73]⟩ ++ s)) W := (fun W => run_string_add_sum _ _ _ (by show 1 + s.size ≤ 9223372036854775807; omega)); obtain ⟨n0, n1⟩ := box2 H12.out.box; have HX : Hid (DB B P w (w12.alloc (.cells #[.string ((⟨#[73]⟩ : ByteArray) ++ s), .int .i64 (acc.length : Int)] 49)) (.slice A1 acc.length C1) (.slice A' p.lines.length C') ⟨acc, p.lines⟩) := H12.out.below ((Below.refl _ _).alloc (Nat.le_refl _) _); have rowN := HX.out.own; have hsN : w.heap.size + 1 ≤ (w12.alloc (.cells #[.string ((⟨#[73]⟩ : ByteArray) ++ s), .int .i64 (acc.length : Int)] 49)).heap.size := (by have := (Array.getElem?_eq_some_iff.1 HX.out.rb).1; omega); have hmx : acc.length + 1 ≤ maxLen := (by unfold maxLen; omega); have hsz : ∀ x ∈ acc ++ [Stk.mk ((⟨#[73]⟩ : ByteArray) ++ s) (acc.length : Int)], x.item.size ≤ 30 := (by intro x hx; rcases List.mem_append.1 hx with hx | hx; exact HX.out.bs x hx; rw [List.mem_singleton.1 hx]; show ((⟨#[73]⟩ : ByteArray) ++ s).size ≤ 30; rw [ByteArray.size_append]; have : (⟨#[73]⟩ : ByteArray).size = 1 := rfl; omega); obtain ⟨v0, v1⟩ := box2 HX.out.box; try dsimp only) | (refine step_append_lies _ (by rfl) _ _ _ (by rfl) (w.heap.size + 1) 49 j0 _ 2 24 Try.underlying23 hj0i hi0 hi1 hi2 rfl (by omega) (.slice A1 acc.length C1) acc.length (clSts acc) (by rfl) rowN ⟨w12.heap.size, 0, none⟩ 1 1 (clSt (Stk.mk ((⟨#[73]⟩ : ByteArray) ++ s) (acc.length : Int))) (by rfl) (by rfl) (World.news_of_block (cs := #[.string ((⟨#[73]⟩ : ByteArray) ++ s), .int .i64 (acc.length : Int)]) (t := 49) (fr := (0, 0)) (World.alloc_heap_new w12 _)) (by simp [Value.oneCell', clSt]) (by omega) hmx (by omega) hsN (w12.heap.size + 1) (by simp) ?_; intro gg cap w10 hown10 hgrow10 hat10 hlt10; have HG := HX.out.appA (v' := .slice (some ⟨gg, 0, none⟩) (acc.length + 1) cap) (n := acc.length + 1) hgrow10 (ts := acc ++ [Stk.mk ((⟨#[73]⟩ : ByteArray) ++ s) (acc.length : Int)]) (by rw [clSts_app]; exact hown10) (by simp) (hat10.imp (fun h => Eq.symm h) (fun h j e => far_new (Option.some.inj e) h)) hsz; obtain ⟨u0, u1⟩ := box2 HG.1; have uf := frz2 HG.1; have H10 : Hid _ := HG.2; clear HG hown10 hgrow10 hat10 hlt10; try dsimp only) | fail)
                  all_goals
                    clear u0 u1 uf r0 r1 v0 v1
                    go_wp2_with fail
                    go_roundw
                    case rel =>
                      have e1 : (acc ++ [Stk.mk ((⟨#[73]⟩ : ByteArray) ++ s) (acc.length : Int)]).length = acc.length + 1 := by simp
                      refine ⟨some ⟨gg, 0, none⟩, cap, acc ++ [Stk.mk ((⟨#[73]⟩ : ByteArray) ++ s) (acc.length : Int)], by rw [e1]; go_num, by omega, ?_⟩
                      rw [e1]
                      exact H10.out
                    case measure => simp [RowKit.intOf]; omega
                · have hge' : (99 + y : Int) ≤ (acc.length : Int) := by omega
                  obtain ⟨y0, y1⟩ := box2 H11.out.box
                  obtain ⟨z0, z1⟩ := box2 H11.out.rb
                  have zf := frz2 H11.out.rb
                  have HE : Hid _ := H11.out.fin (by show acc.length ≤ 1000; omega)
                  go_wp2
                  obtain ⟨f0, f1⟩ := box2 HE.out.2
                  exact bodyPost_ret (v := .agg #[_, _]) (by first | (simp [results, Try.results14, go_sem, f0, f1]; done) | (simp [results, Try.results14, go_sem, z0, z1]; done)) rfl ⟨_, _, _, rfl, HE.out.1⟩
end Go.Proofs.Ytiaclnldeimbhaa
