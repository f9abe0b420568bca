/- Contract of the model's SegmentRead, and both readings of a segment as one element list. -/
import Derived.Test.YtbhionebejnbgaaL02R
import Derived.Test.YtbhionebejnbgaaRightSpec
import Derived.Test.YtbhionebejnbgaaOwnL
namespace Go.Proofs.Ytbhionebejnbgaa
open Go.ChangeShapes Go.WideShapes Go.ChangeAt Go.RowKit Go.Shelf
theorem rdR_I {a b c d : Int} {s : ByteArray} (hs : ¬ 20000 < s.size) (hr : rightB a b c d = true) : rdR a b c d s = rdI a b c d s := by
  unfold rdR rdI
  rw [if_neg hs, if_pos hr]
  rfl
set_option maxRecDepth 20000 in
set_option maxHeartbeats 4000000 in
theorem segRead_spec (a b c d : Int) (s : ByteArray) (w : World) :
    Calls Try.prog 13 #[.agg #[.int .i64 a, .int .i64 b, .int .i64 c, .int .i64 d], .string s] w fun e w' => ∃ (tag : ByteArray) (v : Value), e = .returned (.agg #[.string tag, v, .int .i64 (rdR a b c d s).2.2.1, .int .i64 (rdR a b c d s).2.1, .int .i64 (rdR a b c d s).1]) ∧ RdOut w.heap.size w' (rdR a b c d s).2.2.2 tag v ∧ Below w.heap.size w w' := by
  go_enter Try.func13, Try.ntmps13
  obtain ⟨r, hr⟩ : ∃ r, r = rdR a b c d s := ⟨_, rfl⟩
  rw [← hr]
  have HR : Hid (r = rdR a b c d s) := hr
  clear hr
  by_cases hs : 20000 < s.size
  · have hs' : (20000 : Int) < (s.size : Int) := by omega
    have hr : r = (2, 0, 0, none) := by rw [HR.out]; unfold rdR; rw [if_pos hs]
    subst hr
    go_wp2
    exact bodyPost_ret (v := .agg #[.string ⟨#[]⟩, .slice none 0 0, .int .i64 0, .int .i64 0, .int .i64 2]) (by simp [results, Try.results13, go_sem]) rfl ⟨_, _, rfl, ⟨rfl, rfl⟩, ((Below.refl _ _).alloc (Nat.le_refl _) _).alloc (by simp) _⟩
  · have hs' : (s.size : Int) ≤ 20000 := by omega
    go_wp2_with fail
    refine (right_spec a b c d _).mono ?_
    rintro e w1 ⟨rfl, hb1⟩
    have hL : L2 w ((w.alloc (.cells #[.int .i64 a, .int .i64 b, .int .i64 c, .int .i64 d] 24)).alloc (.cells #[.string ⟨#[]⟩, .slice none 0 0, .int .i64 0, .int .i64 0, .int .i64 0] 34)) a b c d := ⟨((Below.refl _ _).alloc (Nat.le_refl _) _).alloc (by simp) _, (Below.heap_alloc _ _ _ (by simp)).trans (World.alloc_heap_new w _), heap_new2 w _ _⟩
    have hL1 := hL.below hb1
    have hlt := hL1.lt
    cases hrb : rightB a b c d
    · have hr : r = (1, 0, 0, none) := by rw [HR.out]; unfold rdR; rw [if_neg hs, if_neg (by rw [hrb]; simp)]
      subst hr
      obtain ⟨c0, c1, c2, c3, c4, zz⟩ := hL1.out
      have HB : Hid (Below w.heap.size w w1) := hL1.bel
      clear hL hL1 hb1
      go_wp2
      exact bodyPost_ret (v := .agg #[.string ⟨#[]⟩, .slice none 0 0, .int .i64 0, .int .i64 0, .int .i64 1]) (by simp [results, Try.results13, go_sem, c0, c1, c2, c3, c4]) rfl ⟨_, _, rfl, ⟨rfl, rfl⟩, set5 HB.out _ _ _ _ _⟩
    · have HI : Hid (r = rdI a b c d s) := HR.out.trans (rdR_I hs hrb)
      obtain ⟨y0, y1, y2, y3⟩ := hL1.syn
      have HL : Hid (L2 w w1 a b c d) := hL1
      clear hL hL1 hb1
      go_wp2_with fail
      refine (l02Read_any a b c d s _ hrb (by omega)).mono ?_
      rw [← HI.out]
      rintro e w2 ⟨tag, v, rfl, hrd, hb2⟩
      have hL2 := HL.out.below hb2
      have hlt2 := hL2.lt
      obtain ⟨c0, c1, c2, c3, c4, zz⟩ := hL2.out
      have HB : Hid (Below w.heap.size w w2 ∧ RdOut w1.heap.size w2 r.2.2.2 tag v) := ⟨hL2.bel, hrd⟩
      obtain ⟨A, N, C, hv⟩ : ∃ A N C, v = .slice A N C := by
        unfold RdOut at hrd
        split at hrd
        · exact ⟨_, _, _, hrd.2⟩
        · obtain ⟨_, vals, hO⟩ := hrd
          exact row_slice hO.row
      subst hv
      clear hL2 hrd hb2
      go_wp2
      refine bodyPost_ret (v := .agg #[.string tag, .slice A N C, .int .i64 r.2.2.1, .int .i64 r.2.1, .int .i64 r.1]) (by simp [results, Try.results13, go_sem, c0, c1, c2, c3, c4]) rfl ⟨_, _, rfl, ?_, set5 HB.out.1 _ _ _ _ _⟩
      have h2 := HB.out.2
      unfold RdOut at h2 ⊢
      split
      · rename_i hn
        rw [hn] at h2
        exact h2
      · rename_i g hg
        rw [hg] at h2
        obtain ⟨e1, vals, hO⟩ := h2
        exact ⟨e1, vals, (((((hO.set (by omega) _ _).set (by omega) _ _).set (by omega) _ _).set (by omega) _ _).set (by omega) _ _).mono (by omega)⟩
/-- The segment that was read; the empty one where there is none. -/
def gOf (r : Option Seg) : Seg := r.getD (⟨#[]⟩, [])
theorem RdOut.own {n₀ : Nat} {W : World} {r : Option Seg} {tag : ByteArray} {v : Value} (h : RdOut n₀ W r tag v) : tag = (gOf r).1 ∧ OwnEs n₀ W v (gOf r).2 := by
  unfold RdOut at h
  cases r with
  | none =>
    obtain ⟨rfl, rfl⟩ := h
    exact ⟨rfl, [], ⟨rfl, World.ownsRow_nil _ _ _ _, fun i u e hu => by simp at hu, fun i j u x _ hu => by simp at hu⟩⟩
  | some g => exact h
theorem rdI_facts (a b c d : Int) (s : ByteArray) : BdX (gOf (rdI a b c d s).2.2.2).2 ∧ (gOf (rdI a b c d s).2.2.2).2.length ≤ 10 := by
  unfold rdI
  split
  · exact ⟨fun e he => by simp [gOf] at he, by simp [gOf]⟩
  · split
    · exact ⟨fun e he => by simp [gOf] at he, by simp [gOf]⟩
    · split
      · exact ⟨fun e he => by simp [gOf] at he, by simp [gOf]⟩
      · rename_i g hg
        exact (segR_facts hg).2
theorem rdR_facts (a b c d : Int) (s : ByteArray) : BdX (gOf (rdR a b c d s).2.2.2).2 ∧ (gOf (rdR a b c d s).2.2.2).2.length ≤ 10 := by
  by_cases hs : 20000 < s.size
  · unfold rdR
    rw [if_pos hs]
    exact ⟨fun e he => by simp [gOf] at he, by simp [gOf]⟩
  · cases hr : rightB a b c d
    · unfold rdR
      rw [if_neg hs, hr]
      exact ⟨fun e he => by simp [gOf] at he, by simp [gOf]⟩
    · rw [rdR_I hs hr]
      exact rdI_facts a b c d s
theorem read_impl (a b c d : Int) (s : ByteArray) (w : World) (r : Int × Int × Int × Option Seg) (hr : rdR a b c d s = r) :
    Calls Try.prog 10 #[.agg #[.int .i64 a, .int .i64 b, .int .i64 c, .int .i64 d], .string s] w fun e w' => ∃ (v : Value) (vals : List Value), e = .returned (.agg #[.string (gOf r.2.2.2).1, v, .int .i64 r.2.2.1, .int .i64 r.2.1, .int .i64 r.1]) ∧ OwnV w.heap.size w' v vals (gOf r.2.2.2).2 ∧ Below w.heap.size w w' := by
  subst hr
  refine (segRead_any a b c d s w).mono ?_
  rintro e w' ⟨tag, v, rfl, h, hb⟩
  obtain ⟨rfl, vals, hO⟩ := h.own
  exact ⟨v, vals, rfl, hO, hb⟩
theorem read_spec (a b c d : Int) (s : ByteArray) (w : World) (r : Int × Int × Int × Option Seg) (hr : rdR a b c d s = r) :
    Calls Try.prog 13 #[.agg #[.int .i64 a, .int .i64 b, .int .i64 c, .int .i64 d], .string s] w fun e w' => ∃ (v : Value) (vals : List Value), e = .returned (.agg #[.string (gOf r.2.2.2).1, v, .int .i64 r.2.2.1, .int .i64 r.2.1, .int .i64 r.1]) ∧ OwnV w.heap.size w' v vals (gOf r.2.2.2).2 ∧ Below w.heap.size w w' := by
  subst hr
  refine (segRead_spec a b c d s w).mono ?_
  rintro e w' ⟨tag, v, rfl, h, hb⟩
  obtain ⟨rfl, vals, hO⟩ := h.own
  exact ⟨v, vals, rfl, hO, hb⟩
end Go.Proofs.Ytbhionebejnbgaa
