/- Contract of impl.CutAt: at every four numbers, every text and every number it hands back a list of its own with the pieces that cutP tells, or none; it writes nothing that was there. -/
import Derived.Test.YtbdjaohfnbnacaaCutBase
namespace Go.Proofs.Ytbdjaohfnbnacaa
open Go.ChangeShapes Go.WideShapes Go.ChangeAt Go.RowKit Go.Shelf
attribute [local go_sem] Oper.semAt_some
def cutB (a b c y : Int) : Bool := (y == a) || ((y == b) || (y == c))
set_option maxHeartbeats 1000000 in
theorem mayCut_any (a b c d y : Int) (w : World) : Calls Try.prog 58 #[.agg #[.int .i64 a, .int .i64 b, .int .i64 c, .int .i64 d], .int .i64 y] w fun e w' => e = .returned (.bool (cutB a b c y)) ∧ Below w.heap.size w w' := by
  unfold cutB
  cases ha : (y == a)
  · cases hb : (y == b)
    · cases hc : (y == c)
      all_goals
        go_enter Try.func58, Try.ntmps58
        go_wp2
        go_ret
        exact ⟨rfl, (Below.refl _ _).alloc (Nat.le_refl _) _⟩
    · go_enter Try.func58, Try.ntmps58
      go_wp2
      go_ret
      exact ⟨rfl, (Below.refl _ _).alloc (Nat.le_refl _) _⟩
  · go_enter Try.func58, Try.ntmps58
    go_wp2
    go_ret
    exact ⟨rfl, (Below.refl _ _).alloc (Nat.le_refl _) _⟩
theorem four (w : World) (o0 o1 o2 o3 : Obj) : ((((w.alloc o0).alloc o1).alloc o2).alloc o3).heap[w.heap.size]? = some o0 ∧ ((((w.alloc o0).alloc o1).alloc o2).alloc o3).heap[w.heap.size + 1]? = some o1 ∧ ((((w.alloc o0).alloc o1).alloc o2).alloc o3).heap[w.heap.size + 1 + 1]? = some o2 ∧ ((((w.alloc o0).alloc o1).alloc o2).alloc o3).heap[w.heap.size + 1 + 1 + 1]? = some o3 := by
  have e : ((((w.alloc o0).alloc o1).alloc o2).alloc o3).heap = (((w.heap.push o0).push o1).push o2).push o3 := rfl
  rw [e]
  simp only [Array.getElem?_push, Array.size_push]
  refine ⟨?_, ?_, ?_, ?_⟩
  · rw [if_neg (by omega), if_neg (by omega), if_neg (by omega), if_pos trivial]
  · rw [if_neg (by omega), if_neg (by omega), if_pos trivial]
  · rw [if_neg (by omega), if_pos trivial]
  · rw [if_pos trivial]
theorem row_back {W : World} {n₀ e g n cap : Nat} {xs : List Value} (h : W.ownsRow n₀ e 1 (.slice (some ⟨g, 0, none⟩) n cap) n xs) : W.ownsRow n₀ e 1 (.slice (some ⟨g, 0, none⟩) 0 cap) 0 [] := by
  rcases h.2 with ⟨h1, _⟩ | ⟨g', cap', cur, h1, h2, h3, h4, h5, h6, h7⟩
  · cases h1
  · cases h1
    exact ⟨by simp, .inr ⟨g, cap, cur, rfl, h2, h3, Nat.zero_le _, h5, h6, by simp⟩⟩
theorem row_mono {W : World} {n₀ n₁ e k : Nat} {v : Value} {xs : List Value} (h : W.ownsRow n₁ e 1 v k xs) (hn : n₀ ≤ n₁) : W.ownsRow n₀ e 1 v k xs := by
  rcases h.2 with h1 | ⟨g, cap, cur, h1, h2, h3⟩
  · exact ⟨h.1, .inl h1⟩
  · exact ⟨h.1, .inr ⟨g, cap, cur, h1, Nat.le_trans hn h2, h3⟩⟩
theorem info9 : (Try.prog.info? 9).map (fun i => (i.zero, i.size, i.bytes)) = some (some (.string ⟨#[]⟩), 1, 16) := by kernel_rfl
set_option maxRecDepth 100000 in
set_option maxHeartbeats 4000000 in
theorem cut_right (a b c d : Int) (s : ByteArray) (y : Int) (w : World) (hr : rightB a b c d = true) (hs : s.size ≤ 20000) (hy : cutB a b c y = true) :
    Calls Try.prog 53 #[.agg #[.int .i64 a, .int .i64 b, .int .i64 c, .int .i64 d], .string s, .int .i64 y] w fun e w' => ∃ v, e = .returned v ∧ w'.ownsRow w.heap.size 9 1 v ((cutZ y (upto s d s.size)).1.length + 1) (strs ((cutZ y (upto s d s.size)).1 ++ [(cutZ y (upto s d s.size)).2])) ∧ Below w.heap.size w w' := by
  have hs' : (s.size : Int) ≤ 20000 := by omega
  obtain ⟨i0, hi, hz0, hz1, hz2⟩ := info_parts info5
  obtain ⟨j0, hj, hy0, hy1, hy2⟩ := info_parts info9
  refine (callsIn_wide (n := 5)).1 ?_
  refine callsIn_of_wp_marks Try.func53 rfl trivial ?_ rfl
  simp only [Try.ntmps53, List.size_toArray, List.length_cons, List.length_nil, Nat.reduceAdd, Nat.reduceSub, Array.replicate_succ, Array.replicate_zero, List.push_toArray, List.append_toArray, List.nil_append, List.cons_append]
  gi_wp2_with fail
  refine ⟨trivial, (callsIn_wide.2 (right_impl a b c d _)).mono ?_⟩
  rintro e w1 ⟨rfl, hb1⟩
  rw [hr]
  have f0 := (Below.block hb1 w.heap.size (by simp; omega)).trans ((Below.heap_alloc _ _ _ (by simp)).trans (World.alloc_heap_new w _))
  have f1 : w1.heap[w.heap.size + 1]? = some (.cells #[.int .i64 y] 2) := (Below.block hb1 (w.heap.size + 1) (by simp)).trans (by have := World.alloc_heap_new (w.alloc (.cells #[.int .i64 a, .int .i64 b, .int .i64 c, .int .i64 d] 24)) (.cells #[.int .i64 y] 2); rwa [World.size_alloc] at this)
  have hB1 : Below w.heap.size w w1 := ((((Below.refl _ _).alloc (Nat.le_refl _) _).alloc (by simp) _).trans (hb1.mono (by simp; omega)))
  have hs1 : w.heap.size + 1 < w1.heap.size := by have := hb1.size; simp at this; omega
  have H1 : Hid (Below w.heap.size w w1 ∧ w1.heap[w.heap.size]? = some (.cells #[.int .i64 a, .int .i64 b, .int .i64 c, .int .i64 d] 24) ∧ w1.heap[w.heap.size + 1]? = some (.cells #[.int .i64 y] 2)) := ⟨hB1, f0, f1⟩
  have c0 : w1.cell? ⟨w.heap.size, 0, none⟩ = some (.int .i64 a) := by simp [World.cell?, f0]
  have c1 : w1.cell? ⟨w.heap.size, 1, none⟩ = some (.int .i64 b) := by simp [World.cell?, f0]
  have c2 : w1.cell? ⟨w.heap.size, 2, none⟩ = some (.int .i64 c) := by simp [World.cell?, f0]
  have c3 : w1.cell? ⟨w.heap.size, 3, none⟩ = some (.int .i64 d) := by simp [World.cell?, f0]
  have cy : w1.cell? ⟨w.heap.size + 1, 0, none⟩ = some (.int .i64 y) := by simp [World.cell?, f1]
  clear f0 f1 hb1 hB1
  gi_wp2_with fail
  refine ⟨trivial, (callsIn_wide.2 (mayCut_any a b c d y _)).mono ?_⟩
  rintro e w2 ⟨rfl, hb2⟩
  rw [hy]
  have f0 := (Below.block hb2 w.heap.size (by omega)).trans H1.out.2.1
  have f1 := (Below.block hb2 (w.heap.size + 1) (by omega)).trans H1.out.2.2
  have hs2 : w.heap.size + 1 < w2.heap.size := by have := hb2.size; omega
  have hs3 : w.heap.size < w2.heap.size := by omega
  have H2 : Hid (Below w.heap.size w w2 ∧ w2.heap[w.heap.size]? = some (.cells #[.int .i64 a, .int .i64 b, .int .i64 c, .int .i64 d] 24) ∧ w2.heap[w.heap.size + 1]? = some (.cells #[.int .i64 y] 2)) := ⟨H1.out.1.trans (hb2.mono (by omega)), f0, f1⟩
  have d0 : w2.cell? ⟨w.heap.size, 0, none⟩ = some (.int .i64 a) := by simp [World.cell?, f0]
  have d1 : w2.cell? ⟨w.heap.size, 1, none⟩ = some (.int .i64 b) := by simp [World.cell?, f0]
  have d2 : w2.cell? ⟨w.heap.size, 2, none⟩ = some (.int .i64 c) := by simp [World.cell?, f0]
  have d3 : w2.cell? ⟨w.heap.size, 3, none⟩ = some (.int .i64 d) := by simp [World.cell?, f0]
  clear f0 f1 hb2 H1 c0 c1 c2 c3 cy hs1
  gi_wp2_with fail
  refine ⟨trivial, (scan_in Fence.wide _ trivial rfl a b c d s _).mono ?_⟩
  rintro e w3 ⟨rfl, rfl⟩
  clear d0 d1 d2 d3
  gi_wp2_with fail
  have hC0 : CI w.heap.size (w2.heap.size + 1 + 1 + 1 + 1) (w2.heap.size + 1) w2.heap.size [(w.heap.size, (.cells #[.int .i64 a, .int .i64 b, .int .i64 c, .int .i64 d] 24)), (w.heap.size + 1, (.cells #[.int .i64 y] 2)), (w2.heap.size + 1 + 1, (.cells #[.int .i64 a, .int .i64 b, .int .i64 c, .int .i64 d] 24)), (w2.heap.size + 1 + 1 + 1, .cells #[.string s] 9)] w ((((w2.alloc (.cells #[.slice none 0 0] 72)).alloc (.cells #[.slice none 0 0] 22)).alloc (.cells #[.int .i64 a, .int .i64 b, .int .i64 c, .int .i64 d] 24)).alloc (.cells #[.string s] 9)) (.slice none 0 0) [] (.slice none 0 0) [] := by
    obtain ⟨g0, g1, g2, g3⟩ := four w2 (.cells #[.slice none 0 0] 72) (.cells #[.slice none 0 0] 22) (.cells #[.int .i64 a, .int .i64 b, .int .i64 c, .int .i64 d] 24) (.cells #[.string s] 9)
    refine ⟨⟨g1, World.ownsRow_nil _ _ _ _, ?_, ((((H2.out.1.alloc (by omega) _).alloc (by simp; omega) _).alloc (by simp; omega) _).alloc (by simp; omega) _), by omega, ?_, Nat.le_refl _⟩, World.ownsRow_nil _ _ _ _, ?_, by omega, by omega, by omega, by omega⟩
    · intro p hp
      simp only [List.mem_cons, List.not_mem_nil, or_false] at hp
      have old : ∀ k, k < w2.heap.size → ((((w2.alloc (.cells #[.slice none 0 0] 72)).alloc (.cells #[.slice none 0 0] 22)).alloc (.cells #[.int .i64 a, .int .i64 b, .int .i64 c, .int .i64 d] 24)).alloc (.cells #[.string s] 9)).heap[k]? = w2.heap[k]? := fun k hk => (Below.heap_alloc _ _ _ (by simp; omega)).trans ((Below.heap_alloc _ _ _ (by simp; omega)).trans ((Below.heap_alloc _ _ _ (by simp; omega)).trans (Below.heap_alloc _ _ _ hk)))
      rcases hp with rfl | rfl | rfl | rfl | rfl
      · exact g0
      · exact (old _ (by omega)).trans H2.out.2.1
      · exact (old _ (by omega)).trans H2.out.2.2
      · exact g2
      · exact g3
    · intro p hp
      simp only [List.mem_cons, List.not_mem_nil, or_false] at hp
      rcases hp with rfl | rfl | rfl | rfl | rfl <;> exact ⟨⟨_, _, rfl, by decide⟩, by simp <;> omega⟩
    · intro p hp
      simp only [List.mem_cons, List.not_mem_nil, or_false] at hp
      rcases hp with rfl | rfl | rfl | rfl
      · exact ⟨by simp <;> omega, by simp <;> omega⟩
      · exact ⟨by simp <;> omega, by simp <;> omega⟩
      · exact ⟨by simp <;> omega, by simp <;> omega⟩
      · exact ⟨by simp <;> omega, by simp <;> omega⟩
  have ht : ((((w2.alloc (.cells #[.slice none 0 0] 72)).alloc (.cells #[.slice none 0 0] 22)).alloc (.cells #[.int .i64 a, .int .i64 b, .int .i64 c, .int .i64 d] 24)).alloc (.cells #[.string s] 9)).cell? ⟨w2.heap.size + 1 + 1 + 1, 0, none⟩ = some (.string s) := by simp [go_sem]
  have hrl : ((((w2.alloc (.cells #[.slice none 0 0] 72)).alloc (.cells #[.slice none 0 0] 22)).alloc (.cells #[.int .i64 a, .int .i64 b, .int .i64 c, .int .i64 d] 24)).alloc (.cells #[.string s] 9)).cell? ⟨w2.heap.size + 1 + 1, 3, none⟩ = some (.int .i64 d) := by simp [go_sem]
  refine wpIn_rangeFunc_ownG rfl (by omega) (gf := 57) (lb := #[.pointer (some ⟨w2.heap.size + 1 + 1 + 1, 0, none⟩), .pointer (some ⟨w2.heap.size + 1 + 1, 0, none⟩)]) rfl trivial (enters_of Try.func57 (by kernel_rfl) rfl)
    (scan_stops Fence.wide _ trivial rfl (by omega) (w2.heap.size + 1 + 1 + 1) (w2.heap.size + 1 + 1) s d hs _ (by simp) (by simp) ht hrl) Two.trans (Two.put (by simp) (by simp)) (Below.refl _ _) (fun _ => rfl)
    (fun pre W => ∃ v u, CI w.heap.size (w2.heap.size + 1 + 1 + 1 + 1) (w2.heap.size + 1) w2.heap.size [(w.heap.size, (.cells #[.int .i64 a, .int .i64 b, .int .i64 c, .int .i64 d] 24)), (w.heap.size + 1, (.cells #[.int .i64 y] 2)), (w2.heap.size + 1 + 1, (.cells #[.int .i64 a, .int .i64 b, .int .i64 c, .int .i64 d] 24)), (w2.heap.size + 1 + 1 + 1, .cells #[.string s] 9)] w W v (cutZ y pre).2 u (cutZ y pre).1)
    (fun _ _ _ => False)
    (CI.own (fun pre => (cutZ y pre).2) (fun pre => (cutZ y pre).1) (by simp; omega))
    (fun _ _ _ _ _ hs _ _ => hs)
    ⟨_, _, hC0⟩
    (fun x => { tmps := #[.agg #[.int .i64 a, .int .i64 b, .int .i64 c, .int .i64 d], .string s, .int .i64 y, .pointer (some ⟨w.heap.size, 0, none⟩), undef, .pointer (some ⟨w.heap.size + 1, 0, none⟩), .slice none 0 0, .pointer (some ⟨w2.heap.size, 0, none⟩), .pointer (some ⟨w2.heap.size + 1, 0, none⟩), .int .u8 (x.1.toNat : Int), .bool x.2, .string s, .int .i64 (s.size : Int), .bool (decide (20000 < (s.size : Int))), .bool (decide (20000 < (s.size : Int))), .agg #[.int .i64 a, .int .i64 b, .int .i64 c, .int .i64 d], .bool true, .bool false, .bool (decide (20000 < (s.size : Int))), .bool (decide (20000 < (s.size : Int))), .agg #[.int .i64 a, .int .i64 b, .int .i64 c, .int .i64 d], .int .i64 y, .bool true, .bool false, .bool (decide (20000 < (s.size : Int))), .agg #[.int .i64 a, .int .i64 b, .int .i64 c, .int .i64 d], .string s, .func (.func 57) #[] #[.pointer (some ⟨w2.heap.size + 1 + 1 + 1, 0, none⟩), .pointer (some ⟨w2.heap.size + 1 + 1, 0, none⟩)], .int .u8 (x.1.toNat : Int), .bool x.2, undef, undef, undef, undef, undef, undef, undef, undef, undef, undef, undef, undef, undef, undef, undef, undef, undef, undef, undef, undef, undef, undef, undef, undef], defers := [] }) ?assign ?body ?done ?stop
  case assign =>
    intro l x W K hK
    unfold encP
    gi_wp2
    exact hK
  case body =>
    rintro l pre x W ⟨v, u, hC⟩ hlt
    have m2 : (w2.heap.size + 1 + 1, ((.cells #[.int .i64 a, .int .i64 b, .int .i64 c, .int .i64 d] 24) : Obj)) ∈ ([(w.heap.size, (.cells #[.int .i64 a, .int .i64 b, .int .i64 c, .int .i64 d] 24)), (w.heap.size + 1, (.cells #[.int .i64 y] 2)), (w2.heap.size + 1 + 1, (.cells #[.int .i64 a, .int .i64 b, .int .i64 c, .int .i64 d] 24)), (w2.heap.size + 1 + 1 + 1, .cells #[.string s] 9)] : List (Nat × Obj)) := by simp
    have m3 : (w2.heap.size + 1 + 1 + 1, (.cells #[.string s] 9 : Obj)) ∈ ([(w.heap.size, (.cells #[.int .i64 a, .int .i64 b, .int .i64 c, .int .i64 d] 24)), (w.heap.size + 1, (.cells #[.int .i64 y] 2)), (w2.heap.size + 1 + 1, (.cells #[.int .i64 a, .int .i64 b, .int .i64 c, .int .i64 d] 24)), (w2.heap.size + 1 + 1 + 1, .cells #[.string s] 9)] : List (Nat × Obj)) := by simp
    have m1 : (w.heap.size + 1, ((.cells #[.int .i64 y] 2) : Obj)) ∈ ([(w.heap.size, (.cells #[.int .i64 a, .int .i64 b, .int .i64 c, .int .i64 d] 24)), (w.heap.size + 1, (.cells #[.int .i64 y] 2)), (w2.heap.size + 1 + 1, (.cells #[.int .i64 a, .int .i64 b, .int .i64 c, .int .i64 d] 24)), (w2.heap.size + 1 + 1 + 1, .cells #[.string s] 9)] : List (Nat × Obj)) := by simp
    have hx0 : 0 ≤ (x.1.toNat : Int) := by omega
    have hx1 : (x.1.toNat : Int) ≤ 255 := by have := x.1.toNat_lt; omega
    obtain ⟨hlP, hlQ⟩ := cutZ_len y pre
    have hmxQ : (cutZ y pre).2.length + 1 ≤ maxLen := by unfold maxLen; omega
    have hmxP : (cutZ y pre).1.length + 1 ≤ maxLen := by unfold maxLen; omega
    have fy := hC.fixL m1
    have cy : W.cell? ⟨w.heap.size + 1, 0, none⟩ = some (.int .i64 y) := by simp [World.cell?, fy]
    have kP := hC.boxP.cell
    have zP := hC.boxP.frozen
    have kQ := hC.ei.box.cell
    have zQ := hC.ei.box.frozen
    have hn1 : w2.heap.size + 1 + 1 + 1 + 1 ≤ W.heap.size := by have := (Array.getElem?_eq_some_iff.1 (hC.fixL m3)).1; simp at this; omega
    clear fy hC0 ht hrl
    obtain ⟨xc, xr⟩ := x
    dsimp only at *
    cases xr
    · cases hd : ((xc.toNat : Int) == y)
      · have tok1 : True := trivial
        gi_wp2_with (gi_at_builtin; have _t := tok1; refine wpListIn_append_own _ rfl _ _ 22 rfl w.heap.size 5 i0 (.int .u8 0) 1 1 Try.underlying22 hi hz0 hz1 hz2 rfl (by decide) _ _ _ rfl (hC.ei.row.alloc _) ⟨_, 0, none⟩ 1 1 [.int .u8 (xc.toNat : Int)] rfl rfl (cell_one_at _ _ _ _ (by simp)) (by simp [Value.oneCell']) hmxQ (by omega) (by have := hC.ei.sz; simp at this ⊢; omega) ?_; intro v' w4 hown' hgrow _; obtain ⟨g', cap', rfl⟩ := ownsRow_succ hown'; obtain ⟨hv1, hC4, hk4⟩ := hC.app hown' hgrow; have hc1 := hv1.cell; have hf1 := hv1.frozen; clear tok1)
        exact ⟨hk4.from _, ⟨(hC4.fixL m3).trans (hC.fixL m3).symm, (hC4.fixL m2).trans (hC.fixL m2).symm⟩, ⟨_, _, by rw [cutZ_snoc, show cutS y (cutZ y pre) (xc, false) = ((cutZ y pre).1, (cutZ y pre).2 ++ [(xc.toNat : Int)]) by simp [cutS, hd]]; exact hC4⟩⟩
      · have hcv := conv_row hC.ei.row
        rcases hC.ei.row.2 with ⟨rfl, e5⟩ | ⟨g5, cap5, cur5, rfl, _, _, hle5, _, _, _⟩
        · have tok1 : True := trivial
          gi_wp2_with (gi_at_builtin; have _t := tok1; refine wpListIn_append_own _ rfl _ _ 72 rfl (w2.heap.size + 1 + 1 + 1 + 1) 9 j0 (.string ⟨#[]⟩) 1 16 Try.underlying72 hj hy0 hy1 hy2 rfl (by decide) _ _ _ rfl (hC.row.alloc _) ⟨_, 0, none⟩ 1 1 [.string (strOfNums (cutZ y pre).2)] rfl rfl (cell_one_at _ _ _ _ (by simp)) (by simp [Value.oneCell']) hmxP (by omega) (by simp; omega) ?_; intro u' w4 hown' hgrow _; obtain ⟨g', cap', rfl⟩ := ownsRow_succ hown'; obtain ⟨bP4, bQ4, hC4, hk4⟩ := hC.done hown' hgrow; have kP4 := bP4.cell; have zP4 := bP4.frozen; have kQ4 := bQ4.cell; have zQ4 := bQ4.frozen; clear tok1)
          obtain ⟨hC5, hk5⟩ := hC4.back (v0 := .slice none 0 0) (World.ownsRow_nil _ _ _ _)
          exact ⟨(hk4.trans hk5).from _, ⟨(hC5.fixL m3).trans (hC.fixL m3).symm, (hC5.fixL m2).trans (hC.fixL m2).symm⟩, ⟨_, _, by rw [cutZ_snoc, show cutS y (cutZ y pre) (xc, false) = ((cutZ y pre).1 ++ [(cutZ y pre).2], []) by simp [cutS, hd]]; exact hC5⟩⟩
        · have tok1 : True := trivial
          gi_wp2_with (gi_at_builtin; have _t := tok1; refine wpListIn_append_own _ rfl _ _ 72 rfl (w2.heap.size + 1 + 1 + 1 + 1) 9 j0 (.string ⟨#[]⟩) 1 16 Try.underlying72 hj hy0 hy1 hy2 rfl (by decide) _ _ _ rfl (hC.row.alloc _) ⟨_, 0, none⟩ 1 1 [.string (strOfNums (cutZ y pre).2)] rfl rfl (cell_one_at _ _ _ _ (by simp)) (by simp [Value.oneCell']) hmxP (by omega) (by simp; omega) ?_; intro u' w4 hown' hgrow _; obtain ⟨g', cap', rfl⟩ := ownsRow_succ hown'; obtain ⟨bP4, bQ4, hC4, hk4⟩ := hC.done hown' hgrow; have kP4 := bP4.cell; have zP4 := bP4.frozen; have kQ4 := bQ4.cell; have zQ4 := bQ4.frozen; clear tok1)
          obtain ⟨hC5, hk5⟩ := hC4.back (v0 := .slice (some ⟨g5, 0, none⟩) 0 cap5) (row_back hC4.ei.row)
          exact ⟨(hk4.trans hk5).from _, ⟨(hC5.fixL m3).trans (hC.fixL m3).symm, (hC5.fixL m2).trans (hC.fixL m2).symm⟩, ⟨_, _, by rw [cutZ_snoc, show cutS y (cutZ y pre) (xc, false) = ((cutZ y pre).1 ++ [(cutZ y pre).2], []) by simp [cutS, hd]]; exact hC5⟩⟩
    · have tok1 : True := trivial
      gi_wp2_with (gi_at_builtin; have _t := tok1; refine wpListIn_append_own _ rfl _ _ 22 rfl w.heap.size 5 i0 (.int .u8 0) 1 1 Try.underlying22 hi hz0 hz1 hz2 rfl (by decide) _ _ _ rfl (hC.ei.row.alloc _) ⟨_, 0, none⟩ 1 1 [.int .u8 (xc.toNat : Int)] rfl rfl (cell_one_at _ _ _ _ (by simp)) (by simp [Value.oneCell']) hmxQ (by omega) (by have := hC.ei.sz; simp at this ⊢; omega) ?_; intro v' w4 hown' hgrow _; obtain ⟨g', cap', rfl⟩ := ownsRow_succ hown'; obtain ⟨hv1, hC4, hk4⟩ := hC.app hown' hgrow; have hc1 := hv1.cell; have hf1 := hv1.frozen; clear tok1)
      exact ⟨hk4.from _, ⟨(hC4.fixL m3).trans (hC.fixL m3).symm, (hC4.fixL m2).trans (hC.fixL m2).symm⟩, ⟨_, _, by rw [cutZ_snoc, show cutS y (cutZ y pre) (xc, true) = ((cutZ y pre).1, (cutZ y pre).2 ++ [(xc.toNat : Int)]) by simp [cutS]]; exact hC4⟩⟩
  case done =>
    rintro D ys W hD rfl ⟨v, u, hC⟩ hK
    obtain ⟨hlP, hlQ⟩ := cutZ_len y (upto s d s.size)
    rw [upto_length] at hlP hlQ
    have hmxP : (cutZ y (upto s d s.size)).1.length + 1 ≤ maxLen := by unfold maxLen; omega
    have m3 : (w2.heap.size + 1 + 1 + 1, (.cells #[.string s] 9 : Obj)) ∈ ([(w.heap.size, (.cells #[.int .i64 a, .int .i64 b, .int .i64 c, .int .i64 d] 24)), (w.heap.size + 1, (.cells #[.int .i64 y] 2)), (w2.heap.size + 1 + 1, (.cells #[.int .i64 a, .int .i64 b, .int .i64 c, .int .i64 d] 24)), (w2.heap.size + 1 + 1 + 1, .cells #[.string s] 9)] : List (Nat × Obj)) := by simp
    have hn1 : w2.heap.size + 1 + 1 + 1 + 1 ≤ W.heap.size := by have := (Array.getElem?_eq_some_iff.1 (hC.fixL m3)).1; simp at this; omega
    have kP := hC.boxP.cell
    have kQ := hC.ei.box.cell
    have hcv := conv_row hC.ei.row
    have hDl : D < W.heap.size := (Array.getElem?_eq_some_iff.1 hK).1
    have hDn : some D ≠ u.ownBlock := by
      intro e
      rcases hC.row.2 with ⟨rfl, _⟩ | ⟨g, cap, cur, rfl, _, hgb, _⟩
      · simp [Value.ownBlock] at e
      · obtain rfl : D = g := by simpa [Value.ownBlock] using e
        rw [hgb] at hK
        cases hK
    clear hC0 ht hrl
    have tok1 : True := trivial
    gi_wp2_with (gi_at_builtin; have _t := tok1; refine wpListIn_append_own _ rfl _ _ 72 rfl (w2.heap.size + 1 + 1 + 1 + 1) 9 j0 (.string ⟨#[]⟩) 1 16 Try.underlying72 hj hy0 hy1 hy2 rfl (by decide) _ _ _ rfl (hC.row.alloc _) ⟨_, 0, none⟩ 1 1 [.string (strOfNums (cutZ y (upto s d s.size)).2)] rfl rfl (cell_one_at _ _ _ _ (by simp)) (by simp [Value.oneCell']) hmxP (by omega) (by simp; omega) ?_; intro u' w4 hown' hgrow _; clear tok1)
    have hK4 : w4.heap[D]? = some (.deferred (some [])) := (hgrow.block D (by simp; omega) hDn).trans ((Below.heap_alloc _ _ _ hDl).trans hK)
    have hB4 : Below w.heap.size w w4 := (hC.ei.bel.alloc hC.ei.sz _).grown hgrow (by have := hC.ei.sz; simp; omega) (fun j e => Nat.le_trans hC.h1 (row_base hC.row j e))
    refine ⟨by simp, .inl ⟨_, _, rfl, run_takeDeferred hK4, ?_⟩⟩
    refine ⟨_, results_tmp rfl _ _ _, u', rfl, ?_, hB4.trans (belowK_b (w := w) (Nat.le_refl _) w4 D _ _ (by simp at hD; omega) hK4 rfl rfl)⟩
    have hrow := ownsRow_putObj (row_mono hown' (show w.heap.size ≤ w2.heap.size + 1 + 1 + 1 + 1 by omega)) (.deferred none) hK4 rfl
    simpa [strs] using hrow
  case stop =>
    rintro D cd pre W _ _ h _
    exact h.elim
end Go.Proofs.Ytbdjaohfnbnacaa
