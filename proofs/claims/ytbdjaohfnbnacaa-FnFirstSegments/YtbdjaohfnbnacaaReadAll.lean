/- Contract of impl.SegmentsRead. -/
import Derived.Test.YtbdjaohfnbnacaaOwnL
import Derived.Test.YtbdjaohfnbnacaaNext
namespace Go.Proofs.Ytbdjaohfnbnacaa
open Go.ChangeShapes Go.WideShapes Go.ChangeAt Go.RowKit Go.Shelf
/-- What is read of a text from a place on: the code, the place, how many, the segments. -/
def allR (a b c d : Int) (t : ByteArray) : Nat → Nat → List Seg → Int × Int × Int × List Seg
  | 0, _, acc => (0, 0, 0, acc)
  | f + 1, at_, acc => if at_ = t.size then (0, 0, 0, acc) else if acc.length = 200 then (7, at_, acc.length, []) else
    match takeR d a (t.extract at_ t.size) with
    | none => (4, at_, acc.length, [])
    | some q => match segR a b c d q with
      | .inl e => (3, at_ + e, acc.length, [])
      | .inr g => allR a b c d t f (at_ + (q.size + 1)) (acc ++ [g])
def rdsR (a b c d : Int) (s : ByteArray) : Int × Int × Int × List Seg :=
  if 20000 < s.size then (2, 0, 0, []) else if rightB a b c d = true then allR a b c d s (s.size + 1) 0 [] else (1, 0, 0, [])
theorem allR_over {a b c d : Int} {t : ByteArray} {f : Nat} {acc : List Seg} (hf : 0 < f) : allR a b c d t f t.size acc = (0, 0, 0, acc) := by
  cases f with
  | zero => omega
  | succ f => simp [allR]
theorem nx_all {R n₀ n1 : Nat} {xs : List Value} {a b c d : Int} {t : ByteArray} {at_ f : Nat} {lv : Value} {w' : World} {cd pl : Int} {acc : List Seg} (h0 : at_ ≠ t.size) (h : NxOut R n₀ n1 acc.length xs a b c d t at_ lv w' cd pl) :
    (cd ≠ 0 ∧ allR a b c d t (f + 1) at_ acc = (cd, pl, (acc.length : Int), []) ∧ ∃ at' : Int, w'.heap[R]? = some (rdObj a b c d t at' lv)) ∨
    (cd = 0 ∧ acc.length ≠ 200 ∧ ∃ (q : ByteArray) (g : Seg) (lv' u : Value), allR a b c d t (f + 1) at_ acc = allR a b c d t f (at_ + (q.size + 1)) (acc ++ [g]) ∧ at_ + (q.size + 1) ≤ t.size ∧ w'.heap[R]? = some (rdObj a b c d t ((at_ + (q.size + 1) : Nat) : Int) lv') ∧ w'.ownsRow n₀ 44 2 lv' (acc.length + 1) (xs ++ [.string g.1, u]) ∧ OwnEs n1 w' u g.2) := by
  unfold NxOut at h
  rw [if_neg h0] at h
  simp only [allR]
  rw [if_neg h0]
  by_cases h2 : acc.length = 200
  · rw [if_pos h2] at h
    rw [if_pos h2]
    obtain ⟨rfl, rfl, h3⟩ := h
    exact .inl ⟨by decide, rfl, _, h3⟩
  · rw [if_neg h2] at h
    rw [if_neg h2]
    cases hT : takeR d a (t.extract at_ t.size) with
    | none =>
      rw [hT] at h
      obtain ⟨rfl, rfl, h3⟩ := h
      exact .inl ⟨by decide, rfl, _, h3⟩
    | some q =>
      rw [hT] at h
      have hq := take_le hT
      rw [ByteArray.size_extract] at hq
      simp only at h ⊢
      cases hG : segR a b c d q with
      | inl e =>
        rw [hG] at h
        obtain ⟨rfl, rfl, h3⟩ := h
        exact .inl ⟨by decide, rfl, _, h3⟩
      | inr g =>
        rw [hG] at h
        obtain ⟨rfl, rfl, lv', u, h3, h4, h5⟩ := h
        exact .inr ⟨rfl, h2, q, g, lv', u, rfl, by omega, by rw [h3]; congr 2, h4, h5⟩
theorem OwnL.keepB {n₀ : Nat} {W W' : World} {v : Value} {ps : List (Value × List Value)} {gs : List Seg} (h : OwnL n₀ W v ps gs) (hs : ∀ g, n₀ ≤ g → g < W.heap.size → W'.heap[g]? = W.heap[g]?) : OwnL n₀ W' v ps gs :=
  ⟨h.len, row_same h.row fun g hg => hs g (row_at h.row hg).1 (row_at h.row hg).2.1, fun i p g hp hg => (h.segs i p g hp hg).same fun k h1 h2 _ => hs k h1 h2, h.sep⟩
theorem OwnL.set {n₀ B : Nat} {W : World} {v : Value} {ps : List (Value × List Value)} {gs : List Seg} (h : OwnL n₀ W v ps gs) (hB : B < n₀) (i : Nat) (x : Value) : OwnL n₀ (W.setCell ⟨B, i, none⟩ x) v ps gs :=
  h.keepB fun g hg _ => Below.heap_setCell W ⟨B, i, none⟩ x g (show g ≠ B by omega)
theorem OwnL.slice {n₀ : Nat} {W : World} {v : Value} {ps : List (Value × List Value)} {gs : List Seg} (h : OwnL n₀ W v ps gs) : ∃ A C, v = .slice A gs.length C := by
  rcases h.row.2 with ⟨rfl, h0⟩ | ⟨g, cap, cur, rfl, _⟩
  · exact ⟨none, 0, by rw [h0]⟩
  · exact ⟨_, _, rfl⟩
/-- The place in a reader's block. -/
def atOf (R : Nat) (w : World) : Nat := match w.cell? ⟨R, 5, none⟩ with
  | some v => (intOf v).toNat
  | none => 0
theorem atOf_rd {R : Nat} {w : World} {a b c d : Int} {t : ByteArray} {n : Nat} {lv : Value} (h : w.heap[R]? = some (rdObj a b c d t n lv)) : atOf R w = n := by
  unfold atOf
  simp [World.cell?, h, rdObj, intOf]
theorem set4 {h B : Nat} {w W : World} (hb : Below h w W) (hB : h ≤ B) (v0 v1 v2 v3 : Value) : Below h w ((((W.setCell ⟨B, 0, none⟩ v0).setCell ⟨B, 1, none⟩ v1).setCell ⟨B, 2, none⟩ v2).setCell ⟨B, 3, none⟩ v3) :=
  (((hb.setCell hB _).setCell hB _).setCell hB _).setCell hB _
/-- The answer's block. -/
structure L3 (w W : World) (B : Nat) : Prop where
  bel : Below w.heap.size w W
  rx : W.heap[B]? = some (.cells #[.slice none 0 0, .int .i64 0, .int .i64 0, .int .i64 0] 30)
theorem L3.lt {w W : World} {B : Nat} (h : L3 w W B) : B < W.heap.size := (Array.getElem?_eq_some_iff.1 h.rx).1
theorem L3.below {w W W' : World} {B : Nat} (h : L3 w W B) (hb : Below W.heap.size W W') : L3 w W' B := ⟨h.bel.trans (hb.mono h.bel.size), (hb.block _ h.lt).trans h.rx⟩
theorem L3.out {w W : World} {B : Nat} (h : L3 w W B) : W.cell? ⟨B, 0, none⟩ = some (.slice none 0 0) ∧ W.cell? ⟨B, 1, none⟩ = some (.int .i64 0) ∧ W.cell? ⟨B, 2, none⟩ = some (.int .i64 0) ∧ W.cell? ⟨B, 3, none⟩ = some (.int .i64 0) ∧ ∀ o, W.frozen? ⟨B, o, none⟩ = false := by
  have h1 := h.rx
  exact ⟨by simp [World.cell?, h1], by simp [World.cell?, h1], by simp [World.cell?, h1], by simp [World.cell?, h1], fun o => by simp [World.frozen?, h1]⟩
set_option maxRecDepth 20000 in
set_option maxHeartbeats 4000000 in
theorem segsRead_any (a b c d : Int) (s : ByteArray) (w : World) :
    Calls Try.prog 8 #[.agg #[.int .i64 a, .int .i64 b, .int .i64 c, .int .i64 d], .string s] w fun e w' => ∃ (v : Value) (ps : List (Value × List Value)), e = .returned (.agg #[v, .int .i64 (rdsR a b c d s).2.1, .int .i64 (rdsR a b c d s).2.2.1, .int .i64 (rdsR a b c d s).1]) ∧ OwnL w.heap.size w' v ps (rdsR a b c d s).2.2.2 ∧ Below w.heap.size w w' := by
  go_enter Try.func8, Try.ntmps8
  obtain ⟨r, hr⟩ : ∃ r, r = rdsR a b c d s := ⟨_, rfl⟩
  rw [← hr]
  have HR : Hid (r = rdsR a b c d s) := hr
  clear hr
  by_cases hs : 20000 < s.size
  · have hs' : (20000 : Int) < (s.size : Int) := by omega
    have hr : r = (2, 0, 0, []) := by rw [HR.out]; unfold rdsR; rw [if_pos hs]
    subst hr
    go_wp2
    exact bodyPost_ret (v := .agg #[.slice none 0 0, .int .i64 0, .int .i64 0, .int .i64 2]) (by simp [results, Try.results8, go_sem]) rfl ⟨_, rfl, ⟨_, OwnL.nil _ _⟩, ((Below.refl _ _).alloc (Nat.le_refl _) _).alloc (by simp) _⟩
  · have hs' : (s.size : Int) ≤ 20000 := by omega
    go_wp2_with fail
    refine (right_impl a b c d _).mono ?_
    rintro e w1 ⟨rfl, hb1⟩
    have f0 : w1.heap[w.heap.size]? = some (.cells #[.int .i64 a, .int .i64 b, .int .i64 c, .int .i64 d] 24) := (hb1.block w.heap.size (by simp; omega)).trans ((Below.heap_alloc _ _ _ (by simp)).trans (World.alloc_heap_new w _))
    have hL1 : L3 w w1 (w.heap.size + 1) := ⟨(((Below.refl _ _).alloc (Nat.le_refl _) _).alloc (by simp) _).trans (hb1.mono (by simp; omega)), (hb1.block (w.heap.size + 1) (by simp)).trans (heap_new2 w _ _)⟩
    have hlt := hL1.lt
    cases hrb : rightB a b c d
    · have hr : r = (1, 0, 0, []) := by rw [HR.out]; unfold rdsR; rw [if_neg hs, if_neg (by rw [hrb]; simp)]
      subst hr
      obtain ⟨c0, c1, c2, c3, zz⟩ := hL1.out
      have HB : Hid (Below w.heap.size w w1) := hL1.bel
      clear f0 hb1 hL1
      go_wp2
      exact bodyPost_ret (v := .agg #[.slice none 0 0, .int .i64 0, .int .i64 0, .int .i64 1]) (by simp [results, Try.results8, go_sem, c0, c1, c2, c3]) rfl ⟨_, rfl, ⟨_, OwnL.nil _ _⟩, set4 HB.out (show w.heap.size ≤ w.heap.size + 1 by omega) _ _ _ _⟩
    · have hr : r = allR a b c d s (s.size + 1) 0 [] := by rw [HR.out]; unfold rdsR; rw [if_neg hs, if_pos hrb]
      have q0 : w1.cell? ⟨w.heap.size, 0, none⟩ = some (.int .i64 a) := by simp [World.cell?, f0]
      have q1 : w1.cell? ⟨w.heap.size, 1, none⟩ = some (.int .i64 b) := by simp [World.cell?, f0]
      have q2 : w1.cell? ⟨w.heap.size, 2, none⟩ = some (.int .i64 c) := by simp [World.cell?, f0]
      have q3 : w1.cell? ⟨w.heap.size, 3, none⟩ = some (.int .i64 d) := by simp [World.cell?, f0]
      have HA : Hid (r = allR a b c d s (s.size + 1) 0 [] ∧ L3 w w1 (w.heap.size + 1)) := ⟨hr, hL1⟩
      clear f0 hb1 hL1 hr HR
      go_wp2_with fail
      go_loopw [6, 7] (fun _ _ wr => ∃ (f at_ : Nat) (acc : List Seg) (ps : List (Value × List Value)) (lv : Value), wr.heap[w1.heap.size]? = some (rdObj a b c d s at_ lv) ∧ at_ ≤ s.size ∧ acc.length ≤ 200 ∧ OwnL (w1.heap.size + 1) wr lv ps acc ∧ s.size + 1 ≤ f + at_ ∧ r = allR a b c d s f at_ acc ∧ L3 w wr (w.heap.size + 1)) (fun _ _ wr => s.size - atOf w1.heap.size wr)
      case atStart => exact ⟨s.size + 1, 0, [], [], .slice none 0 0, World.alloc_heap_new w1 _, by omega, by simp, OwnL.nil _ _, by omega, HA.out.1, HA.out.2.below ((Below.refl _ _).alloc (Nat.le_refl _) _)⟩
      case round =>
        obtain ⟨f, at_, acc, ps, lv, hR, hat, hal, hO, hf, hr, hL⟩ := hrel
        have hRlt := (Array.getElem?_eq_some_iff.1 hR).1
        have hBlt := hL.lt
        have HO : Hid (wr.heap[w1.heap.size]? = some (rdObj a b c d s at_ lv) ∧ OwnL (w1.heap.size + 1) wr lv ps acc ∧ r = allR a b c d s f at_ acc ∧ L3 w wr (w.heap.size + 1)) := ⟨hR, hO, hr, hL⟩
        obtain ⟨A, C, hlv⟩ := hO.slice
        subst hlv
        clear hR hO hr hL
        go_wp2_with fail
        refine (over_any a b c d s at_ _ w1.heap.size _ HO.out.1).mono ?_
        rintro e w2 ⟨rfl, hb2⟩
        have z2 := hb2.size
        have hR2 := (hb2.block w1.heap.size hRlt).trans HO.out.1
        have hO2 := HO.out.2.1.below hb2
        have hL2 := HO.out.2.2.2.below hb2
        by_cases h1 : at_ = s.size
        · have d1 : ((at_ : Int) == (s.size : Int)) = true := by rw [beq_iff_eq]; omega
          have hr : r = (0, 0, 0, acc) := by rw [HO.out.2.2.1, h1]; exact allR_over (by omega)
          subst hr
          have x6 : w2.cell? ⟨w1.heap.size, 6, none⟩ = some (.slice A acc.length C) := by simp [World.cell?, hR2, rdObj]
          obtain ⟨c0, c1, c2, c3, zz⟩ := hL2.out
          have HF : Hid (OwnL (w1.heap.size + 1) w2 (.slice A acc.length C) ps acc ∧ Below w.heap.size w w2) := ⟨hO2, hL2.bel⟩
          clear hR2 hO2 hL2 hb2 HO h1
          go_wp2
          exact bodyPost_ret (v := .agg #[.slice A acc.length C, .int .i64 0, .int .i64 0, .int .i64 0]) (by simp [results, Try.results8, go_sem, c0, c1, c2, c3]) rfl ⟨_, rfl, ⟨ps, ((((HF.out.1.set (by omega) _ _).set (by omega) _ _).set (by omega) _ _).set (by omega) _ _).mono (by omega)⟩, set4 HF.out.2 (show w.heap.size ≤ w.heap.size + 1 by omega) _ _ _ _⟩
        · have d1 : ((at_ : Int) == (s.size : Int)) = false := by rw [beq_eq_false_iff_ne]; omega
          obtain ⟨f, rfl⟩ : ∃ f', f = f' + 1 := ⟨f - 1, by omega⟩
          have HO2 : Hid (w2.heap[w1.heap.size]? = some (rdObj a b c d s at_ (.slice A acc.length C)) ∧ OwnL (w1.heap.size + 1) w2 (.slice A acc.length C) ps acc ∧ L3 w w2 (w.heap.size + 1)) := ⟨hR2, hO2, hL2⟩
          clear hR2 hO2 hL2 hb2
          go_wp2_with fail
          refine (next_any a b c d s at_ (.slice A acc.length C) w1.heap.size (w1.heap.size + 1) acc.length (cellsL acc ps) _ hrb HO2.out.1 hat (by omega) HO2.out.2.1.row (by omega) (by omega) hal).mono ?_
          rintro e w3 ⟨cd, pl, rfl, hnx, hk3⟩
          have z3 := hk3.size
          have hbx : w3.heap[w.heap.size + 1]? = some (.cells #[.slice none 0 0, .int .i64 0, .int .i64 0, .int .i64 0] 30) := (hk3.block (w.heap.size + 1) (by omega) (by omega) (row2_ne HO2.out.2.1.row (by omega)).symm).trans HO2.out.2.2.rx
          have hB3 : Below w.heap.size w w3 := HO2.out.2.2.bel.trans ⟨hk3.os, hk3.tape, hk3.output, hk3.size, fun k hk => hk3.block k (by omega) (by omega) (row2_ne HO2.out.2.1.row (by omega)).symm⟩
          have hL3 : L3 w w3 (w.heap.size + 1) := ⟨hB3, hbx⟩
          rcases nx_all (f := f) h1 hnx with ⟨hc, hA, at', hR3⟩ | ⟨hc, hne, q, g, lv', u, hA, hle, hR3, hrow3, vals, hO3⟩
          · have hr : r = (cd, pl, (acc.length : Int), []) := HO.out.2.2.1.trans hA
            subst hr
            have dc : (cd == 0) = false := by rw [beq_eq_false_iff_ne]; exact hc
            have x6 : w3.cell? ⟨w1.heap.size, 6, none⟩ = some (.slice A acc.length C) := by simp [World.cell?, hR3, rdObj]
            obtain ⟨c0, c1, c2, c3, zz⟩ := hL3.out
            have HF : Hid (Below w.heap.size w w3) := hB3
            clear hL3 hB3 hbx hnx hk3 hR3 hA HO HO2 HA
            go_wp2
            exact bodyPost_ret (v := .agg #[.slice none 0 0, .int .i64 pl, .int .i64 (acc.length : Int), .int .i64 cd]) (by simp [results, Try.results8, go_sem, c0, c1, c2, c3]) rfl ⟨_, rfl, ⟨_, OwnL.nil _ _⟩, set4 HF.out (show w.heap.size ≤ w.heap.size + 1 by omega) _ _ _ _⟩
          · subst hc
            have HN : Hid (w3.heap[w1.heap.size]? = some (rdObj a b c d s ((at_ + (q.size + 1) : Nat) : Int) lv') ∧ OwnL (w1.heap.size + 1) w3 lv' (ps ++ [(u, vals)]) (acc ++ [g]) ∧ r = allR a b c d s f (at_ + (q.size + 1)) (acc ++ [g]) ∧ L3 w w3 (w.heap.size + 1) ∧ atOf w1.heap.size wr = at_) := ⟨hR3, HO2.out.2.1.push hk3 (by omega) (by omega) hrow3 hO3, HO.out.2.2.1.trans hA, hL3, atOf_rd HO.out.1⟩
            clear hL3 hB3 hbx hnx hk3 hR3 hA HO HO2 HA hrow3 hO3
            go_wp2
            go_roundw
            case rel => exact ⟨f, at_ + (q.size + 1), acc ++ [g], ps ++ [(u, vals)], lv', HN.out.1, hle, by simp; omega, HN.out.2.1, by omega, HN.out.2.2.1, HN.out.2.2.2.1⟩
            case measure => rw [HN.out.2.2.2.2, atOf_rd HN.out.1]; omega
end Go.Proofs.Ytbdjaohfnbnacaa
