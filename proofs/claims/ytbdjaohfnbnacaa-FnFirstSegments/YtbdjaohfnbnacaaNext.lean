/- Contract of impl's (*reader).next. -/
import Derived.Test.YtbdjaohfnbnacaaOver
import Derived.Deep.AppendLies
import Derived.Deep.RegionLaw
import Derived.Test.YtbdjaohfnbnacaaInfoSg
namespace Go.Proofs.Ytbdjaohfnbnacaa
open Go.ChangeShapes Go.WideShapes Go.ChangeAt Go.RowKit Go.Shelf
theorem take_le {d y : Int} {s q : ByteArray} (h : takeR d y s = some q) : q.size + 1 ≤ s.size := by
  unfold takeR at h
  cases hf : (upto s d s.size).findIdx? (isBy y) with
  | none => rw [hf] at h; cases h
  | some k =>
    rw [hf] at h
    simp only [Option.map_some, Option.some.injEq] at h
    rw [List.findIdx?_eq_some_iff_getElem] at hf
    obtain ⟨h1, _⟩ := hf
    rw [upto_length] at h1
    rw [← h, strOfNums_size, bytesL_len, upto_length]
    omega
theorem sgScan_bd {a b c d : Int} : ∀ (L : List ByteArray) (i : Nat) (y : Int) (acc : List (List ByteArray)) (e : Int), sgScan a b c d L i y acc = .inl e → 0 ≤ y → (∀ p ∈ L, p.size ≤ 20000) → 0 ≤ e ∧ e ≤ y + 100005 * L.length := by
  intro L
  induction L with
  | nil => intro i y acc e h; simp [sgScan] at h
  | cons p t ih =>
    intro i y acc e h hy hz
    have hp := hz p (by simp)
    simp only [sgScan] at h
    simp only [List.length_cons]
    split at h
    · simp only [Sum.inl.injEq] at h
      omega
    · cases he : elemR a b c d p with
      | inl x =>
        rw [he] at h
        simp only [Sum.inl.injEq] at h
        have := elemR_bd he hp
        omega
      | inr ps =>
        rw [he] at h
        have := ih _ _ _ _ h (by omega) (fun q hq => hz q (by simp [hq]))
        omega
theorem segR_bd {a b c d : Int} {s : ByteArray} {e : Int} (h : segR a b c d s = .inl e) (hs : s.size ≤ 20000) : 0 ≤ e ∧ e ≤ 4000000000 := by
  have hl := pieces_len d b s
  have hz := pieces_size d b s
  unfold segR at h
  simp only at h
  split at h
  · cases he : sgScan a b c d ((piecesS d b s).drop 1) 0 (((piecesS d b s)[0]?.getD (⟨#[]⟩ : ByteArray)).size + 1) [] with
    | inl x =>
      rw [he] at h
      simp only [Sum.inl.injEq] at h
      have ht : ((piecesS d b s)[0]?.getD (⟨#[]⟩ : ByteArray)).size ≤ 20000 := by
        cases hg : (piecesS d b s)[0]? with
        | none => simp [ByteArray.size]
        | some q => exact Nat.le_trans (hz q (List.mem_of_getElem? hg)) hs
      have h1 := sgScan_bd _ _ _ _ _ he (by omega) (fun p hp => Nat.le_trans (hz p (List.mem_of_mem_drop hp)) hs)
      rw [List.length_drop] at h1
      omega
    | inr es =>
      rw [he] at h
      simp only at h
      split at h
      · simp only [Sum.inl.injEq] at h
        omega
      · cases h
  · simp only [Sum.inl.injEq] at h
    omega
theorem row2_ne {W : World} {n₁ e k : Nat} {v : Value} {xs : List Value} (h : W.ownsRow n₁ e 2 v k xs) {b : Nat} (hb : b < n₁) : v.ownBlock ≠ some b := by
  intro e1
  rcases h.2 with ⟨rfl, _⟩ | ⟨g, cap, cur, rfl, hg, _⟩
  · simp [Value.ownBlock] at e1
  · have : g = b := by simpa [Value.ownBlock] using e1
    omega
theorem row2_below {n₀ t k : Nat} {W W' : World} {v : Value} {xs : List Value} (h : W.ownsRow n₀ t 2 v k xs) (hb : Below W.heap.size W W') : W'.ownsRow n₀ t 2 v k xs := by
  refine h.kept (show W.grownBy W' none from ⟨hb.os, hb.tape, hb.output, hb.size, fun k hk _ => hb.block k hk⟩) ?_
  cases v.ownBlock with
  | none => exact .inl rfl
  | some k => exact .inr (by simp)
theorem row2_keep {n₀ t k R : Nat} {W W' : World} {v : Value} {xs : List Value} (h : W.ownsRow n₀ t 2 v k xs) (hR : R < n₀) (hk : Keep R W W') : W'.ownsRow n₀ t 2 v k xs :=
  h.kept (show W.grownBy W' (some R) from ⟨hk.os, hk.tape, hk.output, hk.size, fun k hk' hn => hk.block k hk' (fun e => hn (by rw [e]))⟩) (.inr (row2_ne h hR))
theorem nx4 {n₀ R k : Nat} {w3 w4 : World} {v : Value} {xs : List Value} {o o' x : Obj} (hg : ((w3.alloc o).alloc o').drew.grownBy w4 v.ownBlock) (hrow : w3.ownsRow n₀ 44 2 v k xs) (hR : R < n₀) (hx : w3.heap[R]? = some x) : w4.heap[R]? = some x := by
  have hl := (Array.getElem?_eq_some_iff.1 hx).1
  have h1 : ((w3.alloc o).alloc o').heap[R]? = some x := (Below.heap_alloc _ _ _ (by simp; omega)).trans ((Below.heap_alloc _ _ _ hl).trans hx)
  exact (hg.block R (by simp; omega) (row2_ne hrow hR).symm).trans h1
theorem row2_lt {n₀ t k : Nat} {W : World} {v : Value} {xs : List Value} (h : W.ownsRow n₀ t 2 v k xs) : ∀ j, v.ownBlock = some j → j < W.heap.size := by
  intro j e1
  rcases h.2 with ⟨rfl, _⟩ | ⟨g, cap, cur, rfl, _, hgb, _⟩
  · simp [Value.ownBlock] at e1
  · have : g = j := by simpa [Value.ownBlock] using e1
    subst this
    exact (Array.getElem?_eq_some_iff.1 hgb).1
theorem row_grow {n₀ t k : Nat} {W W' : World} {v : Value} {xs : List Value} {row : Option Nat} (h : W.ownsRow n₀ t 1 v k xs) (hg : W.grownBy W' row) (hr : ∀ j, row = some j → j < n₀) : W'.ownsRow n₀ t 1 v k xs := by
  refine h.kept hg ?_
  cases hv : v.ownBlock with
  | none => exact .inl rfl
  | some j =>
    refine .inr fun e => ?_
    have h1 := hr j e.symm
    have h2 := row_base h j hv
    omega
theorem OwnV.grow {n₀ : Nat} {W W' : World} {v : Value} {vals : List Value} {es : List (List ByteArray)} {row : Option Nat} (h : OwnV n₀ W v vals es) (hg : W.grownBy W' row) (hr : ∀ j, row = some j → j < n₀) : OwnV n₀ W' v vals es :=
  ⟨h.len, row_grow h.row hg hr, fun i u e hu he => ⟨row_grow (h.parts i u e hu he).1 hg hr, (h.parts i u e hu he).2⟩, h.apart⟩
/-- All lies as it lay but for the reader's block and the list's. -/
structure Keep2 (R : Nat) (row : Option Nat) (w w' : World) : Prop where
  os : w'.os = w.os
  tape : w'.tape = w.tape
  output : w'.output = w.output
  size : w.heap.size ≤ w'.heap.size
  block : ∀ k, k < w.heap.size → k ≠ R → some k ≠ row → w'.heap[k]? = w.heap[k]?
theorem Keep2.of {R : Nat} {row : Option Nat} {w w' : World} (h : Keep R w w') : Keep2 R row w w' := ⟨h.os, h.tape, h.output, h.size, fun k hk hR _ => h.block k hk hR⟩
theorem Keep2.grow {R : Nat} {row : Option Nat} {w w' w'' : World} (h : Keep2 R row w w') (hg : w'.grownBy w'' row) : Keep2 R row w w'' :=
  ⟨hg.os.trans h.os, hg.tape.trans h.tape, hg.output.trans h.output, Nat.le_trans h.size hg.size, fun k hk hR hn => (hg.block k (Nat.lt_of_lt_of_le hk h.size) hn).trans (h.block k hk hR hn)⟩
theorem Keep2.set {R : Nat} {row : Option Nat} {w w' : World} (h : Keep2 R row w w') (o : Nat) (u : Value) : Keep2 R row w (w'.setCell ⟨R, o, none⟩ u) :=
  ⟨h.os, h.tape, h.output, by simpa using h.size, fun k hk hR hn => (Below.heap_setCell w' ⟨R, o, none⟩ u k hR).trans (h.block k hk hR hn)⟩
/-- What stands once the segment has been put onto the list. -/
def Fin4 (R n₀ n1 n : Nat) (xs : List Value) (a b c d : Int) (t : ByteArray) (at' : Int) (row : Option Nat) (w w4 : World) (g : Seg) (u lv' : Value) : Prop :=
  (w4.setCell ⟨R, 6, none⟩ lv').heap[R]? = some (rdObj a b c d t at' lv') ∧ (w4.setCell ⟨R, 6, none⟩ lv').ownsRow n₀ 44 2 lv' (n + 1) (xs ++ [.string g.1, u]) ∧ OwnEs n1 (w4.setCell ⟨R, 6, none⟩ lv') u g.2 ∧ Keep2 R row w (w4.setCell ⟨R, 6, none⟩ lv')
theorem fin4 {R n₀ n1 n m : Nat} {xs vals : List Value} {a b c d : Int} {t : ByteArray} {at' : Int} {lv lv' u : Value} {w w3 w4 : World} {g : Seg} {o o' : Obj} (hRn : R < n₀) (hm : n₀ ≤ m) (hm1 : n1 ≤ m) (hlvl : ∀ j, lv.ownBlock = some j → j < m) (hO : OwnV m w3 u vals g.2) (hk : Keep R w w3)
    (hg : ((w3.alloc o).alloc o').drew.grownBy w4 lv.ownBlock) (hown : w4.ownsRow n₀ 44 2 lv' (n + 1) (xs ++ [.string g.1, u])) (hR4 : w4.heap[R]? = some (rdObj a b c d t at' lv)) : Fin4 R n₀ n1 n xs a b c d t at' lv.ownBlock w w4 g u lv' := by
  have hb : Below w3.heap.size w3 ((w3.alloc o).alloc o').drew := (((Below.refl _ _).alloc (Nat.le_refl _) _).alloc (by simp) _).drew
  refine ⟨heap_setCell_same _ _ _ _ _ _ hR4, ?_, ⟨vals, (((hO.below hb).grow hg hlvl).set (by omega) 6 lv').mono hm1⟩, ((Keep2.of (((hk.alloc o).alloc o').drew)).grow hg).set 6 lv'⟩
  exact hown.kept (show w4.grownBy (w4.setCell ⟨R, 6, none⟩ lv') (some R) from ⟨rfl, rfl, rfl, by simp, fun k _ hk => Below.heap_setCell w4 ⟨R, 6, none⟩ lv' k (fun e => hk (by rw [e]))⟩) (.inr (row2_ne hown hRn))
/-- What next hands back: the code, the place, what became of the reader's block. -/
def NxOut (R n₀ n1 n : Nat) (xs : List Value) (a b c d : Int) (t : ByteArray) (at_ : Nat) (lv : Value) (w' : World) (cd pl : Int) : Prop :=
  if at_ = t.size then cd = 6 ∧ pl = at_ ∧ w'.heap[R]? = some (rdObj a b c d t at_ lv)
  else if n = 200 then cd = 7 ∧ pl = at_ ∧ w'.heap[R]? = some (rdObj a b c d t at_ lv)
  else match takeR d a (t.extract at_ t.size) with
    | none => cd = 4 ∧ pl = at_ ∧ w'.heap[R]? = some (rdObj a b c d t at_ lv)
    | some q => match segR a b c d q with
      | .inl e => cd = 3 ∧ pl = at_ + e ∧ w'.heap[R]? = some (rdObj a b c d t (at_ + (q.size + 1)) lv)
      | .inr g => cd = 0 ∧ pl = at_ ∧ ∃ (lv' u : Value), w'.heap[R]? = some (rdObj a b c d t (at_ + (q.size + 1)) lv') ∧ w'.ownsRow n₀ 44 2 lv' (n + 1) (xs ++ [.string g.1, u]) ∧ OwnEs n1 w' u g.2
set_option maxRecDepth 20000 in
set_option maxHeartbeats 4000000 in
theorem next_any (a b c d : Int) (t : ByteArray) (at_ : Nat) (lv : Value) (R n₀ n : Nat) (xs : List Value) (w : World) (hr : rightB a b c d = true) (hR : w.heap[R]? = some (rdObj a b c d t at_ lv)) (hat : at_ ≤ t.size) (hts : t.size ≤ 20000)
    (hrow : w.ownsRow n₀ 44 2 lv n xs) (hn₀ : n₀ ≤ w.heap.size) (hRn : R < n₀) (hn : n ≤ 200) :
    Calls Try.prog 23 #[.pointer (some ⟨R, 0, none⟩)] w fun e w' => ∃ (cd pl : Int), e = .returned (.tuple #[.int .i64 cd, .int .i64 pl]) ∧ NxOut R n₀ w.heap.size n xs a b c d t at_ lv w' cd pl ∧ Keep2 R lv.ownBlock w w' := by
  have hRl : R < w.heap.size := (Array.getElem?_eq_some_iff.1 hR).1
  have r0 : w.cell? ⟨R, 0, none⟩ = some (.int .i64 a) := by simp [World.cell?, hR, rdObj]
  have r5 : w.cell? ⟨R, 5, none⟩ = some (.int .i64 at_) := by simp [World.cell?, hR, rdObj]
  go_enter Try.func23, Try.ntmps23
  go_wp2_with fail
  refine (over_any a b c d t at_ lv R _ hR).mono ?_
  rintro e w1 ⟨rfl, hb1⟩
  have hR1 := (hb1.block R hRl).trans hR
  have q6 : w1.cell? ⟨R, 6, none⟩ = some lv := by simp [World.cell?, hR1, rdObj]
  obtain ⟨A, C, hlv⟩ : ∃ A C, lv = .slice A n C := by
    rcases hrow.2 with ⟨rfl, h0⟩ | ⟨g, cap, cur, rfl, _⟩
    · exact ⟨none, 0, by rw [h0]⟩
    · exact ⟨_, _, rfl⟩
  subst hlv
  have q0 : w1.cell? ⟨R, 0, none⟩ = some (.int .i64 a) := by simp [World.cell?, hR1, rdObj]
  by_cases h1 : at_ = t.size
  · have d1 : ((at_ : Int) == (t.size : Int)) = true := by rw [beq_iff_eq]; omega
    have HN : Hid (at_ = t.size ∧ w1.heap[R]? = some (rdObj a b c d t at_ (.slice A n C)) ∧ Below w.heap.size w w1) := ⟨h1, hR1, hb1⟩
    clear h1 hR1 hrow hR
    go_wp2
    exact bodyPost_ret (results_tmp2 rfl _ _ _) rfl ⟨_, _, rfl, by unfold NxOut; rw [if_pos HN.out.1]; exact ⟨rfl, rfl, HN.out.2.1⟩, .of (.of_below HN.out.2.2)⟩
  · have d1 : ((at_ : Int) == (t.size : Int)) = false := by rw [beq_eq_false_iff_ne]; omega
    by_cases h2 : n = 200
    · have d2 : ((n : Int) == 200) = true := by rw [beq_iff_eq]; omega
      have HN : Hid (at_ ≠ t.size ∧ n = 200 ∧ w1.heap[R]? = some (rdObj a b c d t at_ (.slice A n C)) ∧ Below w.heap.size w w1) := ⟨h1, h2, hR1, hb1⟩
      clear h1 h2 hR1 hrow hR
      go_wp2
      exact bodyPost_ret (results_tmp2 rfl _ _ _) rfl ⟨_, _, rfl, by unfold NxOut; rw [if_neg HN.out.1, if_pos HN.out.2.1]; exact ⟨rfl, rfl, HN.out.2.2.1⟩, .of (.of_below HN.out.2.2.2)⟩
    · have d2 : ((n : Int) == 200) = false := by rw [beq_eq_false_iff_ne]; omega
      have HN : Hid (at_ ≠ t.size ∧ n ≠ 200 ∧ w1.heap[R]? = some (rdObj a b c d t at_ (.slice A n C)) ∧ w.ownsRow n₀ 44 2 (.slice A n C) n xs ∧ Below w.heap.size w w1) := ⟨h1, h2, hR1, hrow, hb1⟩
      clear h1 h2 hR1 hrow hR hb1 r0 r5
      go_wp2_with fail
      go_region_with (go_at_call 41; refine (take_any a b c d a t at_ (.slice A n C) R w1.drew HN.out.2.2.1 hat hts).mono ?_; rintro e w2 ⟨p, f, rfl, hk2, ho2⟩)
      have hs1 := HN.out.2.2.2.2.size
      cases hT : takeR d a (t.extract at_ t.size) with
      | none =>
        rw [hT] at ho2
        obtain ⟨rfl, rfl, hR2⟩ := ho2
        have HT : Hid (takeR d a (t.extract at_ t.size) = none ∧ w2.heap[R]? = some (rdObj a b c d t at_ (.slice A n C)) ∧ Keep R w1.drew w2) := ⟨hT, hR2, hk2⟩
        clear hT hR2 hk2
        go_wp2
        exact bodyPost_ret (results_tmp2 rfl _ _ _) rfl ⟨_, _, rfl, by unfold NxOut; rw [if_neg HN.out.1, if_neg HN.out.2.1, HT.out.1]; exact ⟨rfl, rfl, HT.out.2.1⟩, .of ((Keep.of_below HN.out.2.2.2.2).drew.trans HT.out.2.2)⟩
      | some q =>
        rw [hT] at ho2
        obtain ⟨rfl, rfl, hR2⟩ := ho2
        have hq := take_le hT
        rw [ByteArray.size_extract] at hq
        have x0 : w2.cell? ⟨R, 0, none⟩ = some (.int .i64 a) := by simp [World.cell?, hR2, rdObj]
        have x1 : w2.cell? ⟨R, 1, none⟩ = some (.int .i64 b) := by simp [World.cell?, hR2, rdObj]
        have x2 : w2.cell? ⟨R, 2, none⟩ = some (.int .i64 c) := by simp [World.cell?, hR2, rdObj]
        have x3 : w2.cell? ⟨R, 3, none⟩ = some (.int .i64 d) := by simp [World.cell?, hR2, rdObj]
        have hps : p.size ≤ 20000 := by omega
        have hs2 := hk2.size
        have HT : Hid (takeR d a (t.extract at_ t.size) = some p ∧ w2.heap[R]? = some (rdObj a b c d t (at_ + (p.size + 1)) (.slice A n C)) ∧ Keep R w1.drew w2) := ⟨hT, hR2, hk2⟩
        clear hT hR2 hk2 hq
        go_wp2_with fail
        refine (segmentOf_any a b c d p _ hr hps).mono ?_
        rintro e w3 ⟨tag, v, f, rfl, hsg, hb3⟩
        have hs3 := hb3.size
        have hR3 := (hb3.block R (by simp at hs2; omega)).trans HT.out.2.1
        cases hG : segR a b c d p with
        | inl e0 =>
          rw [hG] at hsg
          obtain ⟨rfl, rfl, rfl⟩ := hsg
          obtain ⟨hf0, hf1⟩ := segR_bd hG hps
          have HG : Hid (segR a b c d p = .inl f ∧ w3.heap[R]? = some (rdObj a b c d t (at_ + (p.size + 1)) (.slice A n C)) ∧ R < w3.heap.size ∧ Below w2.heap.size w2 w3) := ⟨hG, hR3, (Array.getElem?_eq_some_iff.1 hR3).1, hb3⟩
          clear hG hR3 hb3
          go_wp2
          exact bodyPost_ret (results_tmp2 rfl _ _ _) rfl ⟨_, _, rfl, by unfold NxOut; rw [if_neg HN.out.1, if_neg HN.out.2.1, HT.out.1]; show (match segR a b c d p with | .inl e => _ | .inr g => _); rw [HG.out.1]; exact ⟨rfl, rfl, (Below.heap_alloc _ _ _ HG.out.2.2.1).trans HG.out.2.1⟩, .of ((((Keep.of_below HN.out.2.2.2.2).drew.trans HT.out.2.2).trans (Keep.of_below HG.out.2.2.2)).alloc _)⟩
        | inr g =>
          rw [hG] at hsg
          obtain ⟨rfl, rfl, hown⟩ := hsg
          obtain ⟨vals, hO⟩ := hown
          obtain ⟨A3, N3, C3, hv3⟩ := row_slice hO.row
          subst hv3
          have y6 : (w3.alloc (.cells #[.string g.1, .slice A3 N3 C3] 44)).cell? ⟨R, 6, none⟩ = some (.slice A n C) := by
            have := (Below.heap_alloc w3 (.cells #[.string g.1, .slice A3 N3 C3] 44) R (Array.getElem?_eq_some_iff.1 hR3).1).trans hR3
            simp [World.cell?, this, rdObj]
          have y7 : ((w3.alloc (.cells #[.string g.1, .slice A3 N3 C3] 44)).alloc (.cells #[.string g.1, .slice A3 N3 C3] 44)).cell? ⟨R, 6, none⟩ = some (.slice A n C) := by
            have hl := (Array.getElem?_eq_some_iff.1 hR3).1
            have := (Below.heap_alloc (w3.alloc (.cells #[.string g.1, .slice A3 N3 C3] 44)) (.cells #[.string g.1, .slice A3 N3 C3] 44) R (by simp; omega)).trans ((Below.heap_alloc w3 (.cells #[.string g.1, .slice A3 N3 C3] 44) R hl).trans hR3)
            simp [World.cell?, this, rdObj]
          have HG : Hid (segR a b c d p = .inr g ∧ w3.heap[R]? = some (rdObj a b c d t (at_ + (p.size + 1)) (.slice A n C)) ∧ R < w3.heap.size ∧ OwnV w2.heap.size w3 (.slice A3 N3 C3) vals g.2 ∧ Below w2.heap.size w2 w3) := ⟨hG, hR3, (Array.getElem?_eq_some_iff.1 hR3).1, hO, hb3⟩
          clear hG hR3 hb3 hO
          obtain ⟨i0, hi, hz0, hz1, hz2⟩ := info_parts infoSg
          have hrow3 : w3.ownsRow n₀ 44 2 (.slice A n C) n xs := row2_below (row2_keep (W := w1.drew) (row2_below HN.out.2.2.2.1 HN.out.2.2.2.2).drew hRn HT.out.2.2) HG.out.2.2.2.2
          have hmx : n + 1 ≤ maxLen := by unfold maxLen; omega
          have hsn : n₀ ≤ w3.heap.size := by simp at hs2; omega
          have HM : Hid (n₀ ≤ w2.heap.size ∧ w.heap.size ≤ w2.heap.size) := by show n₀ ≤ w2.heap.size ∧ w.heap.size ≤ w2.heap.size; simp at hs2; omega
          have HV : Hid (∀ j, (Value.slice A n C).ownBlock = some j → j < w2.heap.size) := fun j hj => by
            have := row2_lt HN.out.2.2.2.1 j hj
            simp at hs2
            omega
          have HK : Hid (Keep R w w3) := ((Keep.of_below HN.out.2.2.2.2).drew.trans HT.out.2.2).trans (Keep.of_below HG.out.2.2.2.2)
          go_wp2_with fail
          go_region_law (refine step_append_lies _ (by rfl) _ _ _ (by rfl) n₀ 44 i0 _ 2 40 Try.underlying25 hi hz0 hz1 hz2 rfl (by omega) (.slice A n C) n xs (by rfl) (((hrow3.alloc _).alloc _).drew) ⟨w3.heap.size + 1, 0, none⟩ 1 1 [.string g.1, .slice A3 N3 C3] (by rfl) (by rfl) (World.news_of_block (cs := #[.string g.1, .slice A3 N3 C3]) (t := 44) (fr := (0, 0)) (heap_new2 w3 (.cells #[.string g.1, .slice A3 N3 C3] 44) (.cells #[.string g.1, .slice A3 N3 C3] 44))) (by simp [Value.oneCell']) (by omega) hmx (by omega) (by simp; omega) (w3.heap.size + 2) (by simp) ?_; intro gg cap w4 hown4 hgrow hat4 hlt4; have hR4 := nx4 hgrow hrow3 hRn HG.out.2.1; have e6 : w4.cell? ⟨R, 6, none⟩ = some (.slice A n C) := (by simp [World.cell?, hR4, rdObj]); have z6 : w4.frozen? ⟨R, 6, none⟩ = false := (by simp [World.frozen?, hR4, rdObj]))
          all_goals (have HF : Hid (Fin4 R n₀ w.heap.size n xs a b c d t (at_ + (p.size + 1)) (Value.slice A n C).ownBlock w w4 g (.slice A3 N3 C3) (.slice (some ⟨gg, 0, none⟩) (n + 1) cap)) := (fin4 hRn HM.out.1 HM.out.2 HV.out HG.out.2.2.2.1 HK.out hgrow hown4 hR4); clear hown4 hgrow hat4 hlt4 hR4; go_wp2; exact bodyPost_ret (results_tmp2 rfl _ _ _) rfl ⟨_, _, rfl, (by unfold NxOut; rw [if_neg HN.out.1, if_neg HN.out.2.1, HT.out.1]; show (match segR a b c d p with | .inl e => _ | .inr g => _); rw [HG.out.1]; exact ⟨rfl, rfl, _, _, HF.out.1, HF.out.2.1, HF.out.2.2.1⟩), HF.out.2.2.2⟩)
end Go.Proofs.Ytbdjaohfnbnacaa
