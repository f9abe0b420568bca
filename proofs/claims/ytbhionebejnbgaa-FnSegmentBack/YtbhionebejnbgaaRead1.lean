/- Contract of impl.SegmentRead. -/
import Derived.Test.YtbhionebejnbgaaNext
namespace Go.Proofs.Ytbhionebejnbgaa
open Go.ChangeShapes Go.WideShapes Go.ChangeAt Go.RowKit Go.Shelf
/-- What is read of a text: the code, the place, how much, the segment. -/
def rdR (a b c d : Int) (s : ByteArray) : Int × Int × Int × Option Seg :=
  if 20000 < s.size then (2, 0, 0, none)
  else if rightB a b c d = true then
    (if s.size = 0 then (6, 0, 0, none) else match takeR d a s with
    | none => (4, 0, 0, none)
    | some q => match segR a b c d q with
      | .inl e => (3, e, 0, none)
      | .inr g => (0, 0, q.size + 1, some g))
  else (1, 0, 0, none)
def RdOut (n₀ : Nat) (W : World) (r : Option Seg) (tag : ByteArray) (v : Value) : Prop :=
  match r with
  | none => tag = ⟨#[]⟩ ∧ v = .slice none 0 0
  | some g => tag = g.1 ∧ OwnEs n₀ W v g.2
theorem nx_r {R n₀ n1 : Nat} {a b c d : Int} {s : ByteArray} {lv : Value} {w' : World} {cd pl : Int} (hr : rightB a b c d = true) (hs : ¬ 20000 < s.size) (h : NxOut R n₀ n1 0 [] a b c d s 0 lv w' cd pl) :
    (cd ≠ 0 ∧ rdR a b c d s = (cd, pl, 0, none)) ∨ (∃ (q : ByteArray) (g : Seg) (lv' u : Value), cd = 0 ∧ q.size ≤ 20000 ∧ rdR a b c d s = (0, 0, (q.size : Int) + 1, some g) ∧ w'.heap[R]? = some (rdObj a b c d s ((q.size : Int) + 1) lv') ∧ w'.ownsRow n₀ 27 2 lv' 1 [.string g.1, u] ∧ OwnEs n1 w' u g.2) := by
  unfold rdR
  rw [if_neg hs, if_pos hr]
  unfold NxOut at h
  by_cases h0 : s.size = 0
  · rw [if_pos h0.symm] at h
    obtain ⟨rfl, rfl, _⟩ := h
    rw [if_pos h0]
    exact .inl ⟨by decide, rfl⟩
  · rw [if_neg (fun e => h0 e.symm), if_neg (by decide), ByteArray.extract_zero_size] at h
    rw [if_neg h0]
    cases hT : takeR d a s with
    | none =>
      rw [hT] at h
      obtain ⟨rfl, rfl, _⟩ := h
      exact .inl ⟨by decide, rfl⟩
    | some q =>
      rw [hT] at h
      have hq := take_le hT
      simp only at h ⊢
      cases hG : segR a b c d q with
      | inl e =>
        rw [hG] at h
        obtain ⟨rfl, rfl, _⟩ := h
        exact .inl ⟨by decide, by simp⟩
      | inr g =>
        rw [hG] at h
        obtain ⟨rfl, rfl, lv', u, h1, h2, h3⟩ := h
        exact .inr ⟨q, g, lv', u, rfl, by omega, rfl, by simpa using h1, by simpa using h2, h3⟩
set_option maxRecDepth 20000 in
set_option maxHeartbeats 4000000 in
theorem segRead_any (a b c d : Int) (s : ByteArray) (w : World) :
    Calls Try.prog 10 #[.agg #[.int .i64 a, .int .i64 b, .int .i64 c, .int .i64 d], .string s] w fun e w' => ∃ (tag : ByteArray) (v : Value), e = .returned (.agg #[.string tag, v, .int .i64 (rdR a b c d s).2.2.1, .int .i64 (rdR a b c d s).2.1, .int .i64 (rdR a b c d s).1]) ∧ RdOut w.heap.size w' (rdR a b c d s).2.2.2 tag v ∧ Below w.heap.size w w' := by
  go_enter Try.func10, Try.ntmps10
  obtain ⟨r, hr⟩ : ∃ r, r = rdR a b c d s := ⟨_, rfl⟩
  rw [← hr]
  have HR : Hid (r = rdR a b c d s) := hr
  clear hr
  by_cases hs : 20000 < s.size
  · have hs' : (20000 : Int) < (s.size : Int) := by omega
    have hr : r = (2, 0, 0, none) := by rw [HR.out]; unfold rdR; rw [if_pos hs]
    subst hr
    go_wp2
    exact bodyPost_ret (v := .agg #[.string ⟨#[]⟩, .slice none 0 0, .int .i64 0, .int .i64 0, .int .i64 2]) (by simp [results, Try.results10, go_sem]) rfl ⟨_, _, rfl, ⟨rfl, rfl⟩, ((Below.refl _ _).alloc (Nat.le_refl _) _).alloc (by simp) _⟩
  · have hs' : ¬ (20000 : Int) < (s.size : Int) := by omega
    go_wp2_with fail
    refine (right_impl a b c d _).mono ?_
    rintro e w1 ⟨rfl, hb1⟩
    have hsz : w.heap.size + 2 ≤ w1.heap.size := by have := hb1.size; simp at this; omega
    have f0 : w1.heap[w.heap.size]? = some (.cells #[.int .i64 a, .int .i64 b, .int .i64 c, .int .i64 d] 24) := (hb1.block w.heap.size (by simp; omega)).trans ((Below.heap_alloc _ _ _ (by simp)).trans (World.alloc_heap_new w _))
    have f1 : w1.heap[w.heap.size + 1]? = some (.cells #[.string ⟨#[]⟩, .slice none 0 0, .int .i64 0, .int .i64 0, .int .i64 0] 34) := (hb1.block (w.heap.size + 1) (by simp)).trans (heap_new2 w _ _)
    have hB1 : Below w.heap.size w w1 := (((Below.refl _ _).alloc (Nat.le_refl _) _).alloc (by simp) _).trans (hb1.mono (by simp; omega))
    cases hrb : rightB a b c d
    · have hr : r = (1, 0, 0, none) := by rw [HR.out]; unfold rdR; rw [if_neg hs, if_neg (by rw [hrb]; simp)]
      subst hr
      have c0 : w1.cell? ⟨w.heap.size + 1, 0, none⟩ = some (.string ⟨#[]⟩) := by simp [World.cell?, f1]
      have c1 : w1.cell? ⟨w.heap.size + 1, 1, none⟩ = some (.slice none 0 0) := by simp [World.cell?, f1]
      have c2 : w1.cell? ⟨w.heap.size + 1, 2, none⟩ = some (.int .i64 0) := by simp [World.cell?, f1]
      have c3 : w1.cell? ⟨w.heap.size + 1, 3, none⟩ = some (.int .i64 0) := by simp [World.cell?, f1]
      have c4 : w1.cell? ⟨w.heap.size + 1, 4, none⟩ = some (.int .i64 0) := by simp [World.cell?, f1]
      have zz : ∀ o, w1.frozen? ⟨w.heap.size + 1, o, none⟩ = false := fun o => by simp [World.frozen?, f1]
      have HB : Hid (Below w.heap.size w w1) := hB1
      clear f0 f1 hb1 hB1
      go_wp2
      exact bodyPost_ret (v := .agg #[.string ⟨#[]⟩, .slice none 0 0, .int .i64 0, .int .i64 0, .int .i64 1]) (by simp [results, Try.results10, go_sem, c0, c1, c2, c3, c4]) rfl ⟨_, _, rfl, ⟨rfl, rfl⟩, ((((HB.out.setCell (show w.heap.size ≤ w.heap.size + 1 by omega) _).setCell (show w.heap.size ≤ w.heap.size + 1 by omega) _).setCell (show w.heap.size ≤ w.heap.size + 1 by omega) _).setCell (show w.heap.size ≤ w.heap.size + 1 by omega) _).setCell (show w.heap.size ≤ w.heap.size + 1 by omega) _⟩
    · have q0 : w1.cell? ⟨w.heap.size, 0, none⟩ = some (.int .i64 a) := by simp [World.cell?, f0]
      have q1 : w1.cell? ⟨w.heap.size, 1, none⟩ = some (.int .i64 b) := by simp [World.cell?, f0]
      have q2 : w1.cell? ⟨w.heap.size, 2, none⟩ = some (.int .i64 c) := by simp [World.cell?, f0]
      have q3 : w1.cell? ⟨w.heap.size, 3, none⟩ = some (.int .i64 d) := by simp [World.cell?, f0]
      have HB : Hid (Below w.heap.size w w1 ∧ w1.heap[w.heap.size + 1]? = some (.cells #[.string ⟨#[]⟩, .slice none 0 0, .int .i64 0, .int .i64 0, .int .i64 0] 34)) := ⟨hB1, f1⟩
      clear f0 f1 hb1 hB1
      go_wp2_with fail
      refine (next_any a b c d s 0 (.slice none 0 0) w1.heap.size (w1.heap.size + 1) 0 [] _ hrb (World.alloc_heap_new w1 _) (Nat.zero_le _) (by omega) (World.ownsRow_nil _ _ _ _) (by simp) (by omega) (by omega)).mono ?_
      rintro e w2 ⟨cd, pl, rfl, hnx, hk2⟩
      have hs2 := hk2.size
      rw [World.size_alloc] at hs2
      have f2 : w2.heap[w.heap.size + 1]? = some (.cells #[.string ⟨#[]⟩, .slice none 0 0, .int .i64 0, .int .i64 0, .int .i64 0] 34) := (hk2.block (w.heap.size + 1) (by simp; omega) (by omega) (by simp [Value.ownBlock])).trans ((Below.heap_alloc _ _ _ (by omega)).trans HB.out.2)
      have hB2 : Below w.heap.size w w2 := (HB.out.1.alloc (by omega) _).trans ⟨hk2.os, hk2.tape, hk2.output, hk2.size, fun k hk => hk2.block k (by simp; omega) (by omega) (by simp [Value.ownBlock])⟩
      have c0 : w2.cell? ⟨w.heap.size + 1, 0, none⟩ = some (.string ⟨#[]⟩) := by simp [World.cell?, f2]
      have c1 : w2.cell? ⟨w.heap.size + 1, 1, none⟩ = some (.slice none 0 0) := by simp [World.cell?, f2]
      have c2 : w2.cell? ⟨w.heap.size + 1, 2, none⟩ = some (.int .i64 0) := by simp [World.cell?, f2]
      have c3 : w2.cell? ⟨w.heap.size + 1, 3, none⟩ = some (.int .i64 0) := by simp [World.cell?, f2]
      have c4 : w2.cell? ⟨w.heap.size + 1, 4, none⟩ = some (.int .i64 0) := by simp [World.cell?, f2]
      have zz : ∀ o, w2.frozen? ⟨w.heap.size + 1, o, none⟩ = false := fun o => by simp [World.frozen?, f2]
      have HW : Hid (Below w.heap.size w w2) := hB2
      clear hB2 f2 hk2 q0 q1 q2 q3
      rcases nx_r hrb hs hnx with ⟨hc, hR⟩ | ⟨q, g, lv', u, rfl, hq, hR, hbx, hrow, hown⟩
      · have hr : r = (cd, pl, 0, none) := HR.out.trans hR
        subst hr
        have d0 : (cd == 0) = false := by rw [beq_eq_false_iff_ne]; exact hc
        clear HR hR hnx
        go_wp2
        exact bodyPost_ret (v := .agg #[.string ⟨#[]⟩, .slice none 0 0, .int .i64 0, .int .i64 pl, .int .i64 cd]) (by simp [results, Try.results10, go_sem, c0, c1, c2, c3, c4]) rfl ⟨_, _, rfl, ⟨rfl, rfl⟩, (((((HW.out.setCell (show w.heap.size ≤ w.heap.size + 1 by omega) _).setCell (show w.heap.size ≤ w.heap.size + 1 by omega) _).setCell (show w.heap.size ≤ w.heap.size + 1 by omega) _).setCell (show w.heap.size ≤ w.heap.size + 1 by omega) _).setCell (show w.heap.size ≤ w.heap.size + 1 by omega) _)⟩
      · have hr : r = (0, 0, (q.size : Int) + 1, some g) := HR.out.trans hR
        subst hr
        rcases hrow.2 with ⟨rfl, h0⟩ | ⟨gg, cap, cur, rfl, hgn, hgb, hcp⟩
        · omega
        obtain ⟨vals, hO⟩ := hown
        rw [World.size_alloc] at hO
        obtain ⟨A3, N3, C3, hv3⟩ := row_slice hO.row
        subst hv3
        have e0 := hrow.cells (g := gg) rfl 0 _ rfl
        have e1 := hrow.cells (g := gg) rfl 1 _ rfl
        have x5 : w2.cell? ⟨w1.heap.size, 5, none⟩ = some (.int .i64 ((q.size : Int) + 1)) := by simp [World.cell?, hbx, rdObj]
        have x6 : w2.cell? ⟨w1.heap.size, 6, none⟩ = some (.slice (some ⟨gg, 0, none⟩) 1 cap) := by simp [World.cell?, hbx, rdObj]
        simp [Addr.add] at e0 e1
        have HO : Hid (OwnV (w1.heap.size + 1) w2 (.slice A3 N3 C3) vals g.2) := hO
        clear HR hR hnx hrow hO hbx hgb hcp
        go_wp2_with fail
        go_region
        go_wp2
        exact bodyPost_ret (v := .agg #[.string g.1, .slice A3 N3 C3, .int .i64 ((q.size : Int) + 1), .int .i64 0, .int .i64 0]) (by simp [results, Try.results10, go_sem, c0, c1, c2, c3, c4]) rfl ⟨_, _, rfl, ⟨rfl, vals, ((((((HO.out.set (by omega) _ _).set (by omega) _ _).set (by omega) _ _).set (by omega) _ _).set (by omega) _ _).below (Below.refl _ _).drew).mono (by omega)⟩, (((((HW.out.setCell (show w.heap.size ≤ w.heap.size + 1 by omega) _).setCell (show w.heap.size ≤ w.heap.size + 1 by omega) _).setCell (show w.heap.size ≤ w.heap.size + 1 by omega) _).setCell (show w.heap.size ≤ w.heap.size + 1 by omega) _).setCell (show w.heap.size ≤ w.heap.size + 1 by omega) _).drew⟩
end Go.Proofs.Ytbhionebejnbgaa
