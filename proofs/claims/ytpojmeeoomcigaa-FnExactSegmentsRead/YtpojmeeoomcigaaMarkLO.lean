/- Contracts of the laws' helpers for what SegmentsRead hands back. -/
import Derived.Test.YtpojmeeoomcigaaMarkL
import Derived.Test.YtpojmeeoomcigaaDeepG
namespace Go.Proofs.Ytpojmeeoomcigaa
open Go.ChangeShapes Go.WideShapes Go.ChangeAt Go.RowKit
theorem OwnL.rowG {n₀ : Nat} {W : World} {v : Value} {ps : List (Value × List Value)} {gs : List Seg} (h : OwnL n₀ W v ps gs) (hX : BdL gs) (hl : gs.length ≤ 200) : RowG W v gs := by
  refine ⟨?_, by omega, fun i g hi => by have := (hX g (List.mem_of_getElem? hi)).2.2; omega⟩
  rcases h.row.2 with ⟨rfl, h0⟩ | ⟨g, cap, cur, rfl, _⟩
  · exact ⟨none, 0, by rw [h0], fun hn => absurd (List.length_eq_zero_iff.1 h0) hn⟩
  · refine ⟨_, _, rfl, fun _ => ⟨g, 0, rfl, fun i y hi => ?_⟩⟩
    have hlt := (List.getElem?_eq_some_iff.1 hi).1
    obtain ⟨p, hp⟩ : ∃ p, ps[i]? = some p := ⟨_, List.getElem?_eq_getElem (by rw [h.len]; exact hlt)⟩
    obtain ⟨k1, k2⟩ := cellsL_get hi hp
    have a1 := h.row.cells (g := g) rfl (i * 2) _ k1
    have a2 := h.row.cells (g := g) rfl (i * 2 + 1) _ k2
    rw [addr0] at a1 a2
    have hy := hX y (List.mem_of_getElem? hi)
    rw [Nat.zero_add]
    exact ⟨a1, p.1, a2, (h.segs i p y hp hi).rowE hy.1 (by omega)⟩
theorem allR_facts {a b c d : Int} {t : ByteArray} : ∀ (f at_ : Nat) (acc : List Seg), BdL acc → acc.length ≤ 200 → BdL (allR a b c d t f at_ acc).2.2.2 ∧ (allR a b c d t f at_ acc).2.2.2.length ≤ 200 := by
  intro f
  induction f with
  | zero => intro at_ acc h hl; exact ⟨h, hl⟩
  | succ f ih =>
    intro at_ acc h hl
    simp only [allR]
    split
    · exact ⟨h, hl⟩
    · split
      · exact ⟨fun g hg => by simp at hg, by simp⟩
      · split
        · exact ⟨fun g hg => by simp at hg, by simp⟩
        · split
          · exact ⟨fun g hg => by simp at hg, by simp⟩
          · rename_i g hg
            refine ih _ _ (fun y hy => ?_) (by simp; omega)
            rcases List.mem_append.1 hy with h1 | h1
            · exact h y h1
            · simp only [List.mem_cons, List.not_mem_nil, or_false] at h1
              rw [h1]
              have := segR_facts hg
              exact ⟨this.2.1, this.2.2, this.1⟩
theorem rdsR_facts (a b c d : Int) (s : ByteArray) : BdL (rdsR a b c d s).2.2.2 ∧ (rdsR a b c d s).2.2.2.length ≤ 200 := by
  unfold rdsR
  split
  · exact ⟨fun g hg => by simp at hg, by simp⟩
  · split
    · exact allR_facts _ _ _ (fun g hg => by simp at hg) (by simp)
    · exact ⟨fun g hg => by simp at hg, by simp⟩
set_option maxHeartbeats 1000000 in
theorem eqLO_any (v v' : Value) (gs : List Seg) (x y z : Int) (w : World) (h : RowG w v gs) (h' : RowG w v' gs) :
    Calls Try.prog 28 #[.agg #[v, .int .i64 x, .int .i64 y, .int .i64 z], .agg #[v', .int .i64 x, .int .i64 y, .int .i64 z]] w fun e w' => e = .returned (.bool true) ∧ Below w.heap.size w w' := by
  have hb0 : Below w.heap.size w ((w.alloc (.cells #[v, .int .i64 x, .int .i64 y, .int .i64 z] 45)).alloc (.cells #[v', .int .i64 x, .int .i64 y, .int .i64 z] 45)) := ((Below.refl _ _).alloc (Nat.le_refl _) _).alloc (by simp) _
  have HR : Hid (RowG ((w.alloc (.cells #[v, .int .i64 x, .int .i64 y, .int .i64 z] 45)).alloc (.cells #[v', .int .i64 x, .int .i64 y, .int .i64 z] 45)) v gs ∧ RowG ((w.alloc (.cells #[v, .int .i64 x, .int .i64 y, .int .i64 z] 45)).alloc (.cells #[v', .int .i64 x, .int .i64 y, .int .i64 z] 45)) v' gs ∧ Below w.heap.size w ((w.alloc (.cells #[v, .int .i64 x, .int .i64 y, .int .i64 z] 45)).alloc (.cells #[v', .int .i64 x, .int .i64 y, .int .i64 z] 45))) := ⟨h.below hb0, h'.below hb0, hb0⟩
  obtain ⟨A, C, rfl⟩ := h.val
  obtain ⟨A', C', rfl⟩ := h'.val
  clear h h' hb0
  go_enter Try.func28, Try.ntmps28
  go_wp2_with fail
  refine (eqGs_any _ _ gs _ HR.out.1 HR.out.2.1).mono ?_
  rintro e w2 ⟨rfl, hb2⟩
  have f0 : w2.heap[w.heap.size]? = some (.cells #[.slice A gs.length C, .int .i64 x, .int .i64 y, .int .i64 z] 45) := (hb2.block w.heap.size (by simp; omega)).trans ((Below.heap_alloc _ _ _ (by simp)).trans (World.alloc_heap_new w _))
  have f1 : w2.heap[w.heap.size + 1]? = some (.cells #[.slice A' gs.length C', .int .i64 x, .int .i64 y, .int .i64 z] 45) := (hb2.block (w.heap.size + 1) (by simp)).trans (heap_new2 w _ _)
  have a2 : w2.cell? ⟨w.heap.size, 1, none⟩ = some (.int .i64 x) := by simp [World.cell?, f0]
  have a3 : w2.cell? ⟨w.heap.size, 2, none⟩ = some (.int .i64 y) := by simp [World.cell?, f0]
  have a4 : w2.cell? ⟨w.heap.size, 3, none⟩ = some (.int .i64 z) := by simp [World.cell?, f0]
  have b2 : w2.cell? ⟨w.heap.size + 1, 1, none⟩ = some (.int .i64 x) := by simp [World.cell?, f1]
  have b3 : w2.cell? ⟨w.heap.size + 1, 2, none⟩ = some (.int .i64 y) := by simp [World.cell?, f1]
  have b4 : w2.cell? ⟨w.heap.size + 1, 3, none⟩ = some (.int .i64 z) := by simp [World.cell?, f1]
  have HB : Hid (Below w.heap.size w w2) := HR.out.2.2.trans (hb2.mono (by simp; omega))
  clear f0 f1 hb2 HR
  go_wp2
  go_ret
  exact ⟨rfl, HB.out⟩
set_option maxHeartbeats 1000000 in
theorem markLO_any (v : Value) (ps : List (Value × List Value)) (gs : List Seg) (x y z : Int) (n₀ k0 : Nat) (w : World) (h : OwnL n₀ w v ps gs) (hX : BdL gs) (hl : gs.length ≤ 200) (hn : n₀ ≤ w.heap.size) (hk0 : 0 < k0) (hk1 : k0 ≤ 10) :
    Calls Try.prog 29 #[.agg #[v, .int .i64 x, .int .i64 y, .int .i64 z], .int .i64 k0] w fun e w' => e = .returned (.int .i64 ((k0 + offL gs gs.length : Nat) : Int)) ∧ MkL k0 w' v ps gs ∧ Below n₀ w w' ∧ KeepS w w' := by
  have HO : Hid (OwnL n₀ (w.alloc (.cells #[v, .int .i64 x, .int .i64 y, .int .i64 z] 45)) v ps gs ∧ BdL gs) := ⟨h.below ((Below.refl _ _).alloc (Nat.le_refl _) _), hX⟩
  obtain ⟨A, C, rfl⟩ := h.slice
  clear h hX
  go_enter Try.func29, Try.ntmps29
  go_wp2_with fail
  refine (markL_any _ ps gs n₀ k0 _ HO.out.1 HO.out.2 hl (by simp; omega) hk0 hk1).mono ?_
  rintro e w2 ⟨rfl, hm, hb, hT⟩
  have HM : Hid (MkL k0 w2 (.slice A gs.length C) ps gs ∧ Below n₀ w w2 ∧ KeepS w w2) := ⟨hm, ((Below.refl _ _).alloc hn _).trans hb, fun k hk hc hc2 => (hT k (by simp; omega) (fun c h => hc c ((Below.heap_alloc w _ k hk).symm.trans h)) (fun c h => hc2 c ((Below.heap_alloc w _ k hk).symm.trans h))).trans (Below.heap_alloc w _ k hk)⟩
  clear hm hb hT HO
  go_wp2
  go_ret
  exact ⟨rfl, HM.out⟩
set_option maxHeartbeats 1000000 in
theorem heldLO_any (v : Value) (ps : List (Value × List Value)) (gs : List Seg) (x y z : Int) (k0 : Nat) (w : World) (h : MkL k0 w v ps gs) (hX : BdL gs) (hl : gs.length ≤ 200) (hk0 : 0 < k0) (hk1 : k0 ≤ 10) :
    Calls Try.prog 30 #[.agg #[v, .int .i64 x, .int .i64 y, .int .i64 z], .int .i64 k0] w fun e w' => e = .returned (.int .i64 ((k0 + offL gs gs.length : Nat) : Int)) ∧ Below w.heap.size w w' := by
  have HO : Hid (MkL k0 (w.alloc (.cells #[v, .int .i64 x, .int .i64 y, .int .i64 z] 45)) v ps gs ∧ BdL gs) := ⟨h.below ((Below.refl _ _).alloc (Nat.le_refl _) _), hX⟩
  obtain ⟨A, C, rfl, _⟩ := h.at_
  clear h hX
  go_enter Try.func30, Try.ntmps30
  go_wp2_with fail
  refine (heldL_any _ ps gs k0 _ HO.out.1 HO.out.2 hl hk0 hk1).mono ?_
  rintro e w2 ⟨rfl, hb⟩
  have HM : Hid (Below w.heap.size w w2) := ((Below.refl _ _).alloc (Nat.le_refl _) _).trans (hb.mono (by simp))
  clear hb HO
  go_wp2
  go_ret
  exact ⟨rfl, HM.out⟩
end Go.Proofs.Ytpojmeeoomcigaa
