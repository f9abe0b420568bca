/- Texts of ours put together: Right, Esc. -/
import Derived.Test.YtkaolpnbddjdpaaGreatDoorG45
import Derived.Laws.BytesArg
namespace Go.Proofs.YtkaolpnbddjdpaaGreatDoor
open Go.ChangeShapes Go.WideShapes Go.ChangeAt Go.RowKit
theorem cells4 (w : World) (o : Obj) (t : Nat) (a b c d : Int) : ∀ i, i < 4 → ((w.alloc o).alloc (.cells #[.int .i64 a, .int .i64 b, .int .i64 c, .int .i64 d] t)).cell? ⟨w.heap.size + 1, 0 + i, none⟩ = some (.int .i64 (([a, b, c, d] : List Int)[i]?.getD 0)) := by
  intro i hi
  rcases i with _ | _ | _ | _ | i
  · simp [go_sem]
  · simp [go_sem]
  · simp [go_sem]
  · simp [go_sem]
  · omega

set_option maxHeartbeats 2000000 in
theorem right_impl (a b c d : Int) (w : World) : Calls Tryz.prog 67 #[.agg #[.int .i64 a, .int .i64 b, .int .i64 c, .int .i64 d]] w fun e w' => e = .returned (.bool (rightB a b c d)) ∧ Below w.heap.size w w' := by
  have i0 : ∀ w, (Instr.index 145 (.agg #[.int .i64 a, .int .i64 b, .int .i64 c, .int .i64 d]) (.int .i64 0)).run Tryz.prog w = .ok (.int .i64 a) w := fun _ => by kernel_rfl
  have i1 : ∀ w, (Instr.index 145 (.agg #[.int .i64 a, .int .i64 b, .int .i64 c, .int .i64 d]) (.int .i64 1)).run Tryz.prog w = .ok (.int .i64 b) w := fun _ => by kernel_rfl
  have i2 : ∀ w, (Instr.index 145 (.agg #[.int .i64 a, .int .i64 b, .int .i64 c, .int .i64 d]) (.int .i64 2)).run Tryz.prog w = .ok (.int .i64 c) w := fun _ => by kernel_rfl
  have i3 : ∀ w, (Instr.index 145 (.agg #[.int .i64 a, .int .i64 b, .int .i64 c, .int .i64 d]) (.int .i64 3)).run Tryz.prog w = .ok (.int .i64 d) w := fun _ => by kernel_rfl
  go_enter Tryz.func67, Tryz.ntmps67
  go_wp2_with fail
  refine wp_loop_rounds 5 ?_
  rw [rounds_succ]
  go_wp2_with fail
  refine (mayMark_any a _).mono ?_
  rintro e w' ⟨rfl, hw⟩
  subst hw
  go_wp2_with fail
  rotate_left
  · (go_ret; exact ⟨ret_bool (by simp [rightB, *]), ((Below.refl _ _).alloc (Nat.le_refl _) _).alloc (by simp) _⟩)
  refine (contains_any (w.heap.size + 1) 0 0 4 [a, b, c, d] a _ (by omega) (by simp) (fun i hi => cells4 w _ _ a b c d i (by omega))).mono ?_
  rintro e w' ⟨rfl, hw⟩
  subst hw
  rw [show hasB a [a, b, c, d] 0 = false from rfl]
  go_wp2_with fail
  rw [rounds_succ]
  go_wp2_with fail
  refine (mayMark_any b _).mono ?_
  rintro e w' ⟨rfl, hw⟩
  subst hw
  go_wp2_with fail
  rotate_left
  · (go_ret; exact ⟨ret_bool (by simp [rightB, *]), ((Below.refl _ _).alloc (Nat.le_refl _) _).alloc (by simp) _⟩)
  refine (contains_any (w.heap.size + 1) 0 1 4 [a, b, c, d] b _ (by omega) (by simp) (fun i hi => cells4 w _ _ a b c d i (by omega))).mono ?_
  rintro e w' ⟨rfl, hw⟩
  subst hw
  go_wp2_with fail
  · (go_ret; exact ⟨ret_bool (by simp [rightB, *]), ((Below.refl _ _).alloc (Nat.le_refl _) _).alloc (by simp) _⟩)
  rw [rounds_succ]
  go_wp2_with fail
  refine (mayMark_any c _).mono ?_
  rintro e w' ⟨rfl, hw⟩
  subst hw
  go_wp2_with fail
  rotate_left
  · (go_ret; exact ⟨ret_bool (by simp [rightB, *]), ((Below.refl _ _).alloc (Nat.le_refl _) _).alloc (by simp) _⟩)
  refine (contains_any (w.heap.size + 1) 0 2 4 [a, b, c, d] c _ (by omega) (by simp) (fun i hi => cells4 w _ _ a b c d i (by omega))).mono ?_
  rintro e w' ⟨rfl, hw⟩
  subst hw
  go_wp2_with fail
  · (go_ret; exact ⟨ret_bool (by simp [rightB, *]), ((Below.refl _ _).alloc (Nat.le_refl _) _).alloc (by simp) _⟩)
  rw [rounds_succ]
  go_wp2_with fail
  refine (mayMark_any d _).mono ?_
  rintro e w' ⟨rfl, hw⟩
  subst hw
  go_wp2_with fail
  rotate_left
  · (go_ret; exact ⟨ret_bool (by simp [rightB, *]), ((Below.refl _ _).alloc (Nat.le_refl _) _).alloc (by simp) _⟩)
  refine (contains_any (w.heap.size + 1) 0 3 4 [a, b, c, d] d _ (by omega) (by simp) (fun i hi => cells4 w _ _ a b c d i (by omega))).mono ?_
  rintro e w' ⟨rfl, hw⟩
  subst hw
  go_wp2_with fail
  · (go_ret; exact ⟨ret_bool (by simp [rightB, *]), ((Below.refl _ _).alloc (Nat.le_refl _) _).alloc (by simp) _⟩)
  rw [rounds_succ]
  go_wp2_with fail
  (go_ret; exact ⟨ret_bool (by simp [rightB, *]), ((Below.refl _ _).alloc (Nat.le_refl _) _).alloc (by simp) _⟩)
end Go.Proofs.YtkaolpnbddjdpaaGreatDoor
namespace Go.Proofs.YtkaolpnbddjdpaaGreatDoor
open Go.ChangeShapes Go.WideShapes Go.ChangeAt Go.RowKit Go.Shelf
attribute [local go_sem] Oper.semAt_some
/-- What one byte becomes. -/
def esc1 (a b c d x : Int) : List Int := if ownB a b c d x = true then [d % 256, x] else [x]
def esc (a b c d : Int) (pre : List (UInt8 × Bool)) : List Int := pre.flatMap fun x => esc1 a b c d (x.1.toNat : Int)
theorem esc_snoc (a b c d : Int) (pre : List (UInt8 × Bool)) (x : UInt8 × Bool) : esc a b c d (pre ++ [x]) = esc a b c d pre ++ esc1 a b c d (x.1.toNat : Int) := by simp [esc]
theorem esc1_len (a b c d x : Int) : (esc1 a b c d x).length ≤ 2 := by
  unfold esc1
  split <;> simp
theorem esc_len (a b c d : Int) (pre : List (UInt8 × Bool)) : (esc a b c d pre).length ≤ 2 * pre.length := by
  induction pre with
  | nil => simp [esc]
  | cons x t ih =>
    have := esc1_len a b c d (x.1.toNat : Int)
    simp [esc] at ih ⊢
    omega
set_option maxRecDepth 100000 in
set_option maxHeartbeats 2000000 in
theorem escape_right (a b c d : Int) (s : ByteArray) (w : World) (hr : rightB a b c d = true) (hs : s.size ≤ 20000) :
    Calls Tryz.prog 106 #[.agg #[.int .i64 a, .int .i64 b, .int .i64 c, .int .i64 d], .string s] w fun e w' => e = .returned (.string (strOfNums (esc a b c d (upto s d s.size)))) ∧ Below w.heap.size w w' := by
  have hs' : (s.size : Int) ≤ 20000 := by omega
  obtain ⟨i0, hi, hz0, hz1, hz2⟩ := info_parts info5
  refine (callsIn_wide (n := 5)).1 ?_
  refine callsIn_of_wp_marks Tryz.func106 rfl trivial ?_ rfl
  simp only [Tryz.ntmps106, List.size_toArray, List.length_cons, List.length_nil, Nat.reduceAdd, Nat.reduceSub, Array.replicate_succ, Array.replicate_zero, List.push_toArray, List.append_toArray, List.nil_append, List.cons_append]
  gi_wp2_with fail
  refine ⟨trivial, (callsIn_wide.2 (right_impl a b c d _)).mono ?_⟩
  rintro e w1 ⟨rfl, hb1⟩
  rw [hr]
  have e1 := Below.block hb1 w.heap.size (by simp)
  rw [World.alloc_heap_new w _] at e1
  have hsz : w.heap.size < w1.heap.size := by have := hb1.size; simp at this; omega
  have c0 : w1.cell? ⟨w.heap.size, 0, none⟩ = some (.int .i64 a) := by simp [World.cell?, e1]
  have c1 : w1.cell? ⟨w.heap.size, 1, none⟩ = some (.int .i64 b) := by simp [World.cell?, e1]
  have c2 : w1.cell? ⟨w.heap.size, 2, none⟩ = some (.int .i64 c) := by simp [World.cell?, e1]
  have c3 : w1.cell? ⟨w.heap.size, 3, none⟩ = some (.int .i64 d) := by simp [World.cell?, e1]
  have E1 : Hid (w1.heap[w.heap.size]? = some (.cells #[.int .i64 a, .int .i64 b, .int .i64 c, .int .i64 d] 24)) := e1
  clear e1
  gi_wp2_with fail
  refine ⟨trivial, (scan_in Fence.wide _ trivial rfl a b c d s _).mono ?_⟩
  rintro e w2 ⟨rfl, rfl⟩
  gi_wp2_with fail
  have hB0 : Below w.heap.size w (((w1.alloc (.cells #[.slice none 0 0] 22)).alloc (.cells #[.int .i64 a, .int .i64 b, .int .i64 c, .int .i64 d] 24)).alloc (.cells #[.string s] 9)) := (((((Below.refl _ _).alloc (Nat.le_refl _) _).trans (hb1.mono (by simp))).alloc (by omega) _).alloc (by simp; omega) _).alloc (by simp; omega) _
  have hE0 : EI w.heap.size w1.heap.size [(w.heap.size, (.cells #[.int .i64 a, .int .i64 b, .int .i64 c, .int .i64 d] 24)), (w1.heap.size + 1, (.cells #[.int .i64 a, .int .i64 b, .int .i64 c, .int .i64 d] 24)), (w1.heap.size + 1 + 1, .cells #[.string s] 9)] w (((w1.alloc (.cells #[.slice none 0 0] 22)).alloc (.cells #[.int .i64 a, .int .i64 b, .int .i64 c, .int .i64 d] 24)).alloc (.cells #[.string s] 9)) (.slice none 0 0) [] := by
    refine ⟨((Boxed.new w1 22 _).alloc _).alloc _, World.ownsRow_nil _ _ _ _, ?_, hB0, by omega, ?_, Nat.le_refl _⟩
    · intro p hp
      simp only [List.mem_cons, List.not_mem_nil, or_false] at hp
      rcases hp with rfl | rfl | rfl
      · exact ((Below.heap_alloc _ _ _ (by simp; omega)).trans ((Below.heap_alloc _ _ _ (by simp; omega)).trans (Below.heap_alloc _ _ _ (by omega)))).trans E1.out
      · exact (Below.heap_alloc _ _ _ (by simp)).trans (by have := World.alloc_heap_new (w1.alloc (.cells #[.slice none 0 0] 22)) (.cells #[.int .i64 a, .int .i64 b, .int .i64 c, .int .i64 d] 24); simpa using this)
      · have := World.alloc_heap_new ((w1.alloc (.cells #[.slice none 0 0] 22)).alloc (.cells #[.int .i64 a, .int .i64 b, .int .i64 c, .int .i64 d] 24)) (.cells #[.string s] 9)
        simpa using this
    · intro p hp
      simp only [List.mem_cons, List.not_mem_nil, or_false] at hp
      rcases hp with rfl | rfl | rfl
      · exact ⟨⟨_, _, rfl, by decide⟩, by simp; omega⟩
      · exact ⟨⟨_, _, rfl, by decide⟩, by simp⟩
      · exact ⟨⟨_, _, rfl, by decide⟩, by simp; omega⟩
  have ht : (((w1.alloc (.cells #[.slice none 0 0] 22)).alloc (.cells #[.int .i64 a, .int .i64 b, .int .i64 c, .int .i64 d] 24)).alloc (.cells #[.string s] 9)).cell? ⟨w1.heap.size + 1 + 1, 0, none⟩ = some (.string s) := by simp [go_sem]
  have hrl : (((w1.alloc (.cells #[.slice none 0 0] 22)).alloc (.cells #[.int .i64 a, .int .i64 b, .int .i64 c, .int .i64 d] 24)).alloc (.cells #[.string s] 9)).cell? ⟨w1.heap.size + 1, 3, none⟩ = some (.int .i64 d) := by simp [go_sem]
  refine wpIn_rangeFunc_ownG rfl (by omega) (gf := 169) (lb := #[.pointer (some ⟨w1.heap.size + 1 + 1, 0, none⟩), .pointer (some ⟨w1.heap.size + 1, 0, none⟩)]) rfl trivial (enters_of Tryz.func169 (by kernel_rfl) rfl)
    (scan_stops Fence.wide _ trivial rfl (by omega) (w1.heap.size + 1 + 1) (w1.heap.size + 1) s d hs _ (by simp) (by simp) ht hrl) Two.trans (Two.put (by simp) (by simp)) (Below.refl _ _) (fun _ => rfl)
    (fun pre W => ∃ v, EI w.heap.size w1.heap.size [(w.heap.size, (.cells #[.int .i64 a, .int .i64 b, .int .i64 c, .int .i64 d] 24)), (w1.heap.size + 1, (.cells #[.int .i64 a, .int .i64 b, .int .i64 c, .int .i64 d] 24)), (w1.heap.size + 1 + 1, .cells #[.string s] 9)] w W v (esc a b c d pre))
    (fun _ _ _ => False)
    (EI.own (fun _ => [(w.heap.size, (.cells #[.int .i64 a, .int .i64 b, .int .i64 c, .int .i64 d] 24)), (w1.heap.size + 1, (.cells #[.int .i64 a, .int .i64 b, .int .i64 c, .int .i64 d] 24)), (w1.heap.size + 1 + 1, .cells #[.string s] 9)]) (esc a b c d) (by simp; omega))
    (fun _ _ _ _ _ hs _ _ => hs)
    ⟨_, hE0⟩
    (fun x => { tmps := #[.agg #[.int .i64 a, .int .i64 b, .int .i64 c, .int .i64 d], .string s, .pointer (some ⟨w.heap.size, 0, none⟩), undef, .string ⟨#[]⟩, .pointer (some ⟨w1.heap.size, 0, none⟩), .int .u8 (x.1.toNat : Int), .string s, .int .i64 (s.size : Int), .bool (decide (20000 < (s.size : Int))), .bool (decide (20000 < (s.size : Int))), .agg #[.int .i64 a, .int .i64 b, .int .i64 c, .int .i64 d], .bool true, .bool false, .bool (decide (20000 < (s.size : Int))), .agg #[.int .i64 a, .int .i64 b, .int .i64 c, .int .i64 d], .string s, .func (.func 169) #[] #[.pointer (some ⟨w1.heap.size + 1 + 1, 0, none⟩), .pointer (some ⟨w1.heap.size + 1, 0, none⟩)], .int .u8 (x.1.toNat : Int), .bool x.2, undef, undef, undef, undef, undef, undef, undef, undef, undef, undef, undef, undef, undef, undef, undef], defers := [] }) ?assign ?body ?done ?stop
  case assign =>
    intro l x W K hK
    unfold encP
    gi_wp2
    exact hK
  case body =>
    rintro l pre x W ⟨v, hE⟩ hlt
    have m2 : (w1.heap.size + 1, (.cells #[.int .i64 a, .int .i64 b, .int .i64 c, .int .i64 d] 24 : Obj)) ∈ ([(w.heap.size, (.cells #[.int .i64 a, .int .i64 b, .int .i64 c, .int .i64 d] 24)), (w1.heap.size + 1, (.cells #[.int .i64 a, .int .i64 b, .int .i64 c, .int .i64 d] 24)), (w1.heap.size + 1 + 1, .cells #[.string s] 9)] : List (Nat × Obj)) := by simp
    have m3 : (w1.heap.size + 1 + 1, (.cells #[.string s] 9 : Obj)) ∈ ([(w.heap.size, (.cells #[.int .i64 a, .int .i64 b, .int .i64 c, .int .i64 d] 24)), (w1.heap.size + 1, (.cells #[.int .i64 a, .int .i64 b, .int .i64 c, .int .i64 d] 24)), (w1.heap.size + 1 + 1, .cells #[.string s] 9)] : List (Nat × Obj)) := by simp
    have hx0 : 0 ≤ (x.1.toNat : Int) := by omega
    have hx1 : (x.1.toNat : Int) ≤ 255 := by have := x.1.toNat_lt; omega
    have hpl := esc_len a b c d pre
    have hmx1 : (esc a b c d pre).length + 1 ≤ maxLen := by unfold maxLen; omega
    have hpl2 : (esc a b c d pre ++ [d % 256]).length ≤ 2 * pre.length + 1 := by simp; omega
    have hmx2 : (esc a b c d pre ++ [d % 256]).length + 1 ≤ maxLen := by unfold maxLen; simp; omega
    have f1 := hE.fix _ (List.mem_cons_self ..)
    have c0' : W.cell? ⟨w.heap.size, 0, none⟩ = some (.int .i64 a) := by simp [World.cell?, f1]
    have c1' : W.cell? ⟨w.heap.size, 1, none⟩ = some (.int .i64 b) := by simp [World.cell?, f1]
    have c2' : W.cell? ⟨w.heap.size, 2, none⟩ = some (.int .i64 c) := by simp [World.cell?, f1]
    have c3' : W.cell? ⟨w.heap.size, 3, none⟩ = some (.int .i64 d) := by simp [World.cell?, f1]
    clear f1 c0 c1 c2 c3 hE0 hB0 ht hrl
    gi_wp2_with fail
    refine ⟨trivial, (CallsIn.inRound l (callsIn_wide.2 (isMark_any a b c d _ _ hx0 hx1))).mono ?_⟩
    rintro e w3 ⟨rfl, hb3⟩
    have hE3 := hE.below hb3
    have hko := keepsOthers_of_below hb3
    have f1 := hE3.fix _ (List.mem_cons_self ..)
    have d3 : w3.cell? ⟨w.heap.size, 3, none⟩ = some (.int .i64 d) := by simp [World.cell?, f1]
    have hv := hE3.box.cell
    have hvf := hE3.box.frozen
    clear f1 c0' c1' c2' c3'
    cases hm : ownB a b c d (x.1.toNat : Int)
    · have tok1 : True := trivial
      gi_wp2_with (gi_at_builtin; have _t := tok1; refine wpListIn_append_own _ rfl _ _ 22 rfl w.heap.size 5 i0 (.int .u8 0) 1 1 Tryz.underlying22 hi hz0 hz1 hz2 rfl (by decide) _ _ _ rfl (hE3.row.alloc _) ⟨w3.heap.size, 0, none⟩ 1 1 [.int .u8 (x.1.toNat : Int)] rfl rfl (cell_one_new _ _ _) (by simp [Value.oneCell']) hmx1 (by omega) (by have := hE3.sz; simp; omega) ?_; intro v' w1' hown' hgrow _; obtain ⟨g', cap', rfl⟩ := ownsRow_succ hown'; obtain ⟨hv1, hE4, hk4, _⟩ := hE3.app hown' hgrow; have hc1 := hv1.cell; have hf1 := hv1.frozen; clear tok1)
      rw [show esc a b c d pre ++ [(x.1.toNat : Int)] = esc a b c d (pre ++ [x]) by rw [esc_snoc]; unfold esc1; rw [if_neg (by rw [hm]; simp)]] at hE4
      exact ⟨(hko.trans hk4).from _, ⟨(hE4.fix _ m3).trans (hE.fix _ m3).symm, (hE4.fix _ m2).trans (hE.fix _ m2).symm⟩, ⟨_, hE4⟩⟩
    · have tok1 : True := trivial
      have tok2 : True := trivial
      gi_wp2_with (first | (gi_at_builtin; have _t := tok1; refine wpListIn_append_own _ rfl _ _ 22 rfl w.heap.size 5 i0 (.int .u8 0) 1 1 Tryz.underlying22 hi hz0 hz1 hz2 rfl (by decide) _ _ _ rfl (hE3.row.alloc _) ⟨w3.heap.size, 0, none⟩ 1 1 [.int .u8 (d % 256)] rfl rfl (cell_one_new _ _ _) (by simp [Value.oneCell']) hmx1 (by omega) (by have := hE3.sz; simp; omega) ?_; intro v' w1' hown' hgrow _; obtain ⟨g', cap', rfl⟩ := ownsRow_succ hown'; obtain ⟨hv1, hE4, hk4, _⟩ := hE3.app hown' hgrow; have hc1 := hv1.cell; have hf1 := hv1.frozen; clear tok1) | (gi_at_builtin; have _t := tok2; refine wpListIn_append_own _ rfl _ _ 22 rfl w.heap.size 5 i0 (.int .u8 0) 1 1 Tryz.underlying22 hi hz0 hz1 hz2 rfl (by decide) _ _ _ rfl (hE4.row.alloc _) ⟨_, 0, none⟩ 1 1 [.int .u8 (x.1.toNat : Int)] rfl rfl (cell_one_at _ _ _ _ (by simp)) (by simp [Value.oneCell']) hmx2 (by omega) (by have := hE4.sz; simp at this ⊢; omega) ?_; intro v2 w2' hown2 hgrow2 _; obtain ⟨g2, cap2, rfl⟩ := ownsRow_succ hown2; obtain ⟨hv2, hE5, hk5, _⟩ := hE4.app hown2 hgrow2; have hc2 := hv2.cell; have hf2 := hv2.frozen; clear tok2))
      rw [show (esc a b c d pre ++ [d % 256]).length = (esc a b c d pre).length + 1 by simp] at hE5 hk5
      rw [show esc a b c d pre ++ [d % 256] ++ [(x.1.toNat : Int)] = esc a b c d (pre ++ [x]) by rw [esc_snoc]; unfold esc1; rw [if_pos hm, List.append_assoc]; rfl] at hE5
      exact ⟨((hko.trans hk4).trans hk5).from _, ⟨(hE5.fix _ m3).trans (hE.fix _ m3).symm, (hE5.fix _ m2).trans (hE.fix _ m2).symm⟩, ⟨_, hE5⟩⟩
  case done =>
    rintro D ys W hD rfl ⟨v, hE⟩ hK
    have hv := hE.box.cell
    clear hE0 hB0 ht hrl c0 c1 c2 c3
    have hcv := conv_row hE.row
    have HE : Hid (Below w.heap.size w W) := hE.bel
    clear hE
    gi_wp2
    refine ⟨by simp, .inl ⟨_, _, rfl, run_takeDeferred hK, ?_⟩⟩
    exact ⟨_, results_tmp rfl _ _ _, rfl, HE.out.trans (belowK_b (w := w) (Nat.le_refl _) W D _ _ (by simp at hD; omega) hK rfl rfl)⟩
  case stop =>
    rintro D c pre W _ _ h _
    exact h.elim
/-- What Escape tells. -/
def escText (a b c d : Int) (s : ByteArray) : ByteArray := if s.size ≤ 20000 ∧ rightB a b c d = true then strOfNums (esc a b c d (upto s d s.size)) else ⟨#[]⟩
end Go.Proofs.YtkaolpnbddjdpaaGreatDoor
