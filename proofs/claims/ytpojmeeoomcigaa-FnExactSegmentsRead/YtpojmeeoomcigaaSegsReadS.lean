/- Contract of the model's SegmentsRead. -/
import Derived.Test.YtpojmeeoomcigaaAllS
namespace Go.Proofs.Ytpojmeeoomcigaa
open Go.ChangeShapes Go.WideShapes Go.ChangeAt Go.RowKit Go.Shelf
theorem rdsR_all {a b c d : Int} {s : ByteArray} (hs : ¬ 20000 < s.size) (hr : rightB a b c d = true) : rdsR a b c d s = allR a b c d s (s.size + 1) 0 [] := by
  unfold rdsR
  rw [if_neg hs, if_pos hr]
set_option maxRecDepth 20000 in
set_option maxHeartbeats 4000000 in
theorem segsRead_spec (a b c d : Int) (s : ByteArray) (w : World) (r : Int × Int × Int × List Seg) (hr0 : rdsR a b c d s = r) :
    Calls Try.prog 27 #[.agg #[.int .i64 a, .int .i64 b, .int .i64 c, .int .i64 d], .string s] w fun e w' => ∃ v, e = .returned (.agg #[v, .int .i64 r.2.1, .int .i64 r.2.2.1, .int .i64 r.1]) ∧ (∃ ps, OwnL w.heap.size w' v ps r.2.2.2) ∧ Below w.heap.size w w' := by
  have HR : Hid (r = rdsR a b c d s) := hr0.symm
  clear hr0
  go_enter Try.func27, Try.ntmps27
  by_cases hs : 20000 < s.size
  · have hs' : (20000 : Int) < (s.size : Int) := by omega
    have hr : r = (2, 0, 0, []) := by rw [HR.out]; unfold rdsR; rw [if_pos hs]
    subst hr
    go_wp2
    exact bodyPost_ret (v := .agg #[.slice none 0 0, .int .i64 0, .int .i64 0, .int .i64 2]) (by simp [results, Try.results27, go_sem]) rfl ⟨_, rfl, ⟨_, OwnL.nil _ _⟩, ((Below.refl _ _).alloc (Nat.le_refl _) _).alloc (by simp) _⟩
  · have hs' : (s.size : Int) ≤ 20000 := by omega
    go_wp2_with fail
    refine (right_spec a b c d _).mono ?_
    rintro e w1 ⟨rfl, hb1⟩
    have hL : L4 w ((w.alloc (.cells #[.int .i64 a, .int .i64 b, .int .i64 c, .int .i64 d] 24)).alloc (.cells #[.slice none 0 0, .int .i64 0, .int .i64 0, .int .i64 0] 45)) a b c d := ⟨⟨((Below.refl _ _).alloc (Nat.le_refl _) _).alloc (by simp) _, heap_new2 w _ _⟩, (Below.heap_alloc _ _ _ (by simp)).trans (World.alloc_heap_new w _)⟩
    have hL1 := hL.below hb1
    have hlt := hL1.l3.lt
    cases hrb : rightB a b c d
    · have hr : r = (1, 0, 0, []) := by rw [HR.out]; unfold rdsR; rw [if_neg hs, if_neg (by rw [hrb]; simp)]
      subst hr
      obtain ⟨c0, c1, c2, c3, zz⟩ := hL1.l3.out
      have HB : Hid (Below w.heap.size w w1) := hL1.l3.bel
      clear hL hL1 hb1
      go_wp2
      exact bodyPost_ret (v := .agg #[.slice none 0 0, .int .i64 0, .int .i64 0, .int .i64 1]) (by simp [results, Try.results27, go_sem, c0, c1, c2, c3]) rfl ⟨_, rfl, ⟨_, OwnL.nil _ _⟩, set4 HB.out (show w.heap.size ≤ w.heap.size + 1 by omega) _ _ _ _⟩
    · have HI : Hid (r = allR a b c d s (s.size + 1) 0 []) := HR.out.trans (rdsR_all hs hrb)
      obtain ⟨y0, y1, y2, y3⟩ := hL1.syn
      have HL : Hid (L4 w w1 a b c d) := hL1
      clear hL hL1 hb1
      go_wp2_with fail
      refine (l02All_any a b c d s _ hrb (by omega) r HI.out).mono ?_
      rintro e w2 ⟨v, rfl, ⟨ps, hO⟩, hb2⟩
      have hL2 := HL.out.below hb2
      have hlt2 := hL2.l3.lt
      obtain ⟨c0, c1, c2, c3, zz⟩ := hL2.l3.out
      have HB : Hid (Below w.heap.size w w2 ∧ OwnL w1.heap.size w2 v ps r.2.2.2) := ⟨hL2.l3.bel, hO⟩
      obtain ⟨A, C, hv⟩ := hO.slice
      subst hv
      clear hL2 hO hb2
      clear HI HR HL
      go_wp2
      exact bodyPost_ret (v := .agg #[.slice A r.2.2.2.length C, .int .i64 r.2.1, .int .i64 r.2.2.1, .int .i64 r.1]) (by simp [results, Try.results27, go_sem, c0, c1, c2, c3]) rfl ⟨_, rfl, ⟨ps, ((((HB.out.2.set (show w.heap.size + 1 < w1.heap.size by omega) _ _).set (show w.heap.size + 1 < w1.heap.size by omega) _ _).set (show w.heap.size + 1 < w1.heap.size by omega) _ _).set (show w.heap.size + 1 < w1.heap.size by omega) _ _).mono (show w.heap.size ≤ w1.heap.size by omega)⟩, set4 HB.out.1 (show w.heap.size ≤ w.heap.size + 1 by omega) _ _ _ _⟩
end Go.Proofs.Ytpojmeeoomcigaa
