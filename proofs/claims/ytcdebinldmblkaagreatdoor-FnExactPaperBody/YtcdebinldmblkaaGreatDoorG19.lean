/- Texts of ours put together: PiM, InfoSg, IxE, PiG. -/
import Derived.Test.YtcdebinldmblkaaGreatDoorG16
import Derived.Test.YtcdebinldmblkaaGreatDoorG18
import Derived.Deep.RegionLaw
import Derived.Test.YtcdebinldmblkaaGreatDoorG04
import Derived.Test.YtcdebinldmblkaaGreatDoorG07
import Derived.Deep.AppendLies
namespace Go.Proofs.YtcdebinldmblkaaGreatDoor
open Go.ChangeShapes Go.WideShapes Go.ChangeAt Go.RowKit
/-- The method of a kind. -/
def fnL (k : Int) : Nat := if k = 1 then 168 else if k = 2 ∨ k = 4 then 171 else if k = 3 then 173 else if k = 5 then 175 else if k = 6 then 177 else 179
theorem method_line (k : Int) (hk : 1 ≤ k ∧ k ≤ 7) (w : World) : (method 303 (tyK k) (.agg #[]) "loop.example/g00096/impl.line").run Tryz.prog w = .ok (fnL k, .agg #[]) w := by
  obtain rfl | rfl | rfl | rfl | rfl | rfl | rfl : k = 1 ∨ k = 2 ∨ k = 3 ∨ k = 4 ∨ k = 5 ∨ k = 6 ∨ k = 7 := by omega
  all_goals kernel_rfl
theorem call_line (k : Int) (hk : 1 ≤ k ∧ k ≤ 7) (a b : Value) (w : World) : (callFunc (fnL k) #[a, b]).run Tryz.prog w = .ok (.enter (fnL k) #[a, b]) w := by
  obtain rfl | rfl | rfl | rfl | rfl | rfl | rfl : k = 1 ∨ k = 2 ∨ k = 3 ∨ k = 4 ∨ k = 5 ∨ k = 6 ∨ k = 7 := by omega
  all_goals kernel_rfl
def lnV (l : Ln) : Value := .agg #[.int .i64 l.no, .string l.item, .int .i64 l.qty, .int .i64 l.money, .string l.note]
theorem optN_num (n : Int) (h : i64B n) : NumW (((optN n)[0]?).getD eT) n ∧ (((optN n)[0]?).getD eT).size ≤ 20 := by
  unfold optN
  split
  · rename_i q; exact ⟨.inr ⟨rfl, q⟩, Nat.zero_le _⟩
  · exact ⟨.inl ⟨numT_all n, h⟩, (decS_long n h.1 h.2).2⟩
theorem optT_get (t : ByteArray) : ((optT t)[0]?).getD eT = t := by
  unfold optT
  split
  · rename_i q; exact (empty_eT q).symm
  · rfl
set_option maxRecDepth 100000 in
theorem optT_one (t : ByteArray) : ((optT t)[1]?).getD eT = eT := by
  unfold optT
  split <;> rfl
theorem optN_one (n : Int) : ((optN n)[1]?).getD eT = eT := by
  unfold optN
  split <;> rfl
theorem line_any (k : Int) (hk : 1 ≤ k ∧ k ≤ 7) (l : Ln) (w : World) (hI : LnI l) (hE : ErrsAt w) : Calls Tryz.prog (fnL k) #[.agg #[], w4 (wordsI k l)] w fun e w' => e = .returned (lnV (lnI k l)) ∧ Below w.heap.size w w' := by
  have z0 := (decS_long l.no hI.1.1 hI.1.2).2
  have z1 := (decS_long l.qty hI.2.1.1 hI.2.1.2).2
  have n0 : NumW (decS l.no) l.no := .inl ⟨numT_all _, hI.1⟩
  have n1 : NumW (decS l.qty) l.qty := .inl ⟨numT_all _, hI.2.1⟩
  obtain ⟨n2, z2⟩ := optN_num l.money hI.2.2
  obtain rfl | rfl | rfl | rfl | rfl | rfl | rfl : k = 1 ∨ k = 2 ∨ k = 3 ∨ k = 4 ∨ k = 5 ∨ k = 6 ∨ k = 7 := by omega
  · have e : w4 (wordsI 1 l) = .agg #[.string (decS l.no), .string l.item, .string (decS l.qty), .string (((optN l.money)[0]?).getD eT)] := rfl
    rw [e]
    exact line_order (decS l.no) l.item (decS l.qty) (((optN l.money)[0]?).getD eT) l.no l.qty l.money w (by omega) n0 (by omega) n1 (by omega) n2 hE
  · have := line_answer (decS l.no) (decS l.qty) (((optT l.note)[0]?).getD eT) eT l.no l.qty w (by omega) n0 (by omega) n1 hE
    rw [optT_get] at this
    have e : w4 (wordsI 2 l) = .agg #[.string (decS l.no), .string (decS l.qty), .string l.note, .string eT] := by
      show Value.agg #[.string (decS l.no), .string (decS l.qty), .string (((optT l.note)[0]?).getD eT), .string (((optT l.note)[1]?).getD eT)] = _
      rw [optT_get, optT_one]
    rw [e]
    exact this
  · exact line_sent (decS l.no) (decS l.qty) eT eT l.no l.qty w (by omega) n0 (by omega) n1 hE
  · have := line_answer (decS l.no) (decS l.qty) (((optT l.note)[0]?).getD eT) eT l.no l.qty w (by omega) n0 (by omega) n1 hE
    rw [optT_get] at this
    have e : w4 (wordsI 4 l) = .agg #[.string (decS l.no), .string (decS l.qty), .string l.note, .string eT] := by
      show Value.agg #[.string (decS l.no), .string (decS l.qty), .string (((optT l.note)[0]?).getD eT), .string (((optT l.note)[1]?).getD eT)] = _
      rw [optT_get, optT_one]
    rw [e]
    exact this
  · exact line_stock l.item (decS l.qty) eT eT l.qty w (by omega) n1 hE
  · have := line_adjust l.item (decS l.qty) (((optT l.note)[0]?).getD eT) eT l.qty w (by omega) n1 hE
    rw [optT_get] at this
    have e : w4 (wordsI 6 l) = .agg #[.string l.item, .string (decS l.qty), .string l.note, .string eT] := by
      show Value.agg #[.string l.item, .string (decS l.qty), .string (((optT l.note)[0]?).getD eT), .string (((optT l.note)[1]?).getD eT)] = _
      rw [optT_get, optT_one]
    rw [e]
    exact this
  · have e : w4 (wordsI 7 l) = .agg #[.string (decS l.no), .string (decS l.qty), .string (((optN l.money)[0]?).getD eT), .string eT] := by
      show Value.agg #[.string (decS l.no), .string (decS l.qty), .string (((optN l.money)[0]?).getD eT), .string (((optN l.money)[1]?).getD eT)] = _
      rw [optN_one]
    rw [e]
    exact line_heard (decS l.no) (decS l.qty) (((optN l.money)[0]?).getD eT) eT l.no l.qty l.money w (by omega) n0 (by omega) n1 (by omega) n2 hE
/-- The one or the other. -/
def selB (o : Bool) (a b : ByteArray) : ByteArray := if o = true then a else b
theorem pb_set {W : World} {P : Nat} {cs : Array Value} {t : Nat} (h : W.heap[P]? = some (.cells cs t)) (i : Nat) (x : Value) : (W.setCell ⟨P, i, none⟩ x).heap[P]? = some (.cells (cs.setIfInBounds i x) t) := heap_setCell_same W P i _ _ x h
set_option maxRecDepth 20000 in
set_option maxHeartbeats 8000000 in
theorem setDoc_any (P : Nat) (k : Int) (r0 o0 : ByteArray) (d0 : Int) (vn vl : Value) (a0 a1 a2 a3 : ByteArray) (n : Int) (Wb w : World) (hk : 1 ≤ k ∧ k ≤ 7) (hx : w.heap[P]? = some (.cells #[.int .i64 k, .string r0, .string o0, .int .i64 d0, vn, vl] 31)) (hV : VarsAt Wb) (hb : Below Wb.heap.size Wb w) (hP : Wb.heap.size ≤ P)
    (hz : a1.size ≤ 281474976710656 ∧ a2.size ≤ 281474976710656) (hn : NumW (selB (hasO k) a2 a1) n) :
    Calls Tryz.prog 75 #[.pointer (some ⟨P, 0, none⟩), .agg #[.string a0, .string a1, .string a2, .string a3]] w fun e w' => e = .returned (.tuple #[]) ∧ w'.heap[P]? = some (.cells #[.int .i64 k, .string a0, .string (selB (hasO k) a1 o0), .int .i64 n, vn, vl] 31) ∧ Keep P w w' := by
  obtain ⟨o, ho⟩ : ∃ o, o = hasO k := ⟨_, rfl⟩
  rw [← ho] at hn ⊢
  have HO : Hid (o = hasO k) := ho
  clear ho
  have hlt := (Array.getElem?_eq_some_iff.1 hx).1
  obtain ⟨W1, hW1⟩ : ∃ W1, w.alloc (.cells #[.string a0, .string a1, .string a2, .string a3] 111) = W1 := ⟨_, rfl⟩
  have b1 : Below w.heap.size w W1 := by rw [← hW1]; exact (Below.refl _ _).alloc (Nat.le_refl _) _
  have y1 : W1.heap[w.heap.size]? = some (.cells #[.string a0, .string a1, .string a2, .string a3] 111) := by rw [← hW1]; exact World.alloc_heap_new _ _
  have x1 : W1.heap[P]? = some (.cells #[.int .i64 k, .string r0, .string o0, .int .i64 d0, vn, vl] 31) := (b1.block _ hlt).trans hx
  obtain ⟨c0, c1, c2, c3, c4, c5⟩ := pbox x1
  have cz := frz5 x1
  obtain ⟨W2, hW2⟩ : ∃ W2, W1.setCell ⟨P, 1, none⟩ (.string a0) = W2 := ⟨_, rfl⟩
  have x2 : W2.heap[P]? = some (.cells #[.int .i64 k, .string a0, .string o0, .int .i64 d0, vn, vl] 31) := by rw [← hW2]; exact pb_set x1 1 _
  have k2 : Keep P w W2 := by rw [← hW2]; exact (Keep.of_below b1).setCell 1 _
  have y2 : W2.heap[w.heap.size]? = some (.cells #[.string a0, .string a1, .string a2, .string a3] 111) := by rw [← hW2, Below.heap_setCell _ _ _ _ (show w.heap.size ≠ P by omega)]; exact y1
  have v2 : VarsAt W2 := hV.below (hb.trans (k2.below hP hb.size))
  obtain ⟨s0, s1, s2, s3⟩ := bx4 y1
  go_enter Tryz.func75, Tryz.ntmps75
  go_upto_region 2 with fail
  try rw [hW1]
  try rw [hW2]
  clear hW2 hW1 b1 y1 x1 c0 c1 c2 c3 c4 c5 cz hx hV hb hlt s0 s1 s2 s3
  obtain ⟨c0, c1, c2, c3, c4, c5⟩ := pbox x2
  obtain ⟨s0, s1, s2, s3⟩ := bx4 y2
  have HK : Hid (Keep P w W2 ∧ W2.heap[P]? = some (.cells #[.int .i64 k, .string a0, .string o0, .int .i64 d0, vn, vl] 31) ∧ ErrsAt W2 ∧ W2.heap[w.heap.size]? = some (.cells #[.string a0, .string a1, .string a2, .string a3] 111)) := ⟨k2, x2, v2.errs, y2⟩
  have hv2 := v2.tabs
  clear k2 x2 v2 y2
  have Q1 := hasOther_any k W2 hk hv2
  rw [← HO.out] at Q1
  clear HO hv2
  go_wp2_with fail
  refine Q1.mono ?_
  rintro e W2 ⟨rfl, rfl⟩
  clear Q1
  have HX : Hid (∀ W, Below W2.heap.size W2 W → (W.cell? ⟨P, 0, none⟩ = some (.int .i64 k) ∧ W.cell? ⟨P, 1, none⟩ = some (.string a0) ∧ W.cell? ⟨P, 2, none⟩ = some (.string o0) ∧ W.cell? ⟨P, 3, none⟩ = some (.int .i64 d0) ∧ W.cell? ⟨P, 4, none⟩ = some (vn) ∧ W.cell? ⟨P, 5, none⟩ = some (vl)) ∧ (W.cell? ⟨w.heap.size, 0, none⟩ = some (.string a0) ∧ W.cell? ⟨w.heap.size, 1, none⟩ = some (.string a1) ∧ W.cell? ⟨w.heap.size, 2, none⟩ = some (.string a2) ∧ W.cell? ⟨w.heap.size, 3, none⟩ = some (.string a3)) ∧ (∀ o, W.frozen? ⟨P, o, none⟩ = false) ∧ W.heap[P]? = some (.cells #[.int .i64 k, .string a0, .string o0, .int .i64 d0, vn, vl] 31)) := fun W hW => by
    have q1 := (hW.block _ (Array.getElem?_eq_some_iff.1 HK.out.2.1).1).trans HK.out.2.1
    have q2 := (hW.block _ (Array.getElem?_eq_some_iff.1 HK.out.2.2.2).1).trans HK.out.2.2.2
    exact ⟨pbox q1, bx4 q2, frz5 q1, q1⟩
  cases o with
  | true =>
    clear c0 c1 c2 c3 c4 c5 s0 s1 s2 s3
    obtain ⟨⟨c0, c1, c2, c3, c4, c5⟩, ⟨s0, s1, s2, s3⟩, cz, _⟩ := HX.out W2 (Below.refl _ _)
    go_upto_region 3 with fail
    go_region_law (first | (go_simp; go_at_call 84; refine (numberOf_any a2 n _ hz.2 (by first | exact HK.out.2.2.1 | exact HK.out.2.2.1.drewP) hn).mono ?_; rintro e w5 ⟨rfl, hb5⟩; have b5 : Below W2.heap.size W2 w5 := (by first | exact hb5 | exact undrewP hb5); obtain ⟨⟨g0, g1, g2, g3, g4, g5⟩, ⟨h0, h1, h2, h3⟩, gz, hx5⟩ := HX.out w5 b5; clear hb5; try dsimp only) | fail)
    all_goals
      go_wp2
      exact bodyPost_ret (v := .tuple #[]) (by simp [results, Tryz.results75, go_sem]) rfl ⟨rfl, by first | exact pb_set (pb_set hx5 2 _) 3 _ | exact pb_set (pb_set hx5 3 _) 2 _, ((HK.out.1.trans (Keep.of_below b5)).setCell _ _).setCell _ _⟩
  | false =>
    clear c0 c1 c2 c3 c4 c5 s0 s1 s2 s3
    obtain ⟨⟨c0, c1, c2, c3, c4, c5⟩, ⟨s0, s1, s2, s3⟩, cz, _⟩ := HX.out W2 (Below.refl _ _)
    go_wp2_with fail
    refine (numberOf_any a1 n _ hz.1 HK.out.2.2.1 hn).mono ?_
    rintro e w5 ⟨rfl, b5⟩
    obtain ⟨⟨g0, g1, g2, g3, g4, g5⟩, ⟨h0, h1, h2, h3⟩, gz, hx5⟩ := HX.out w5 b5
    have HF : Hid (Keep P w (w5.setCell ⟨P, 3, none⟩ (.int .i64 n)) ∧ w5.heap[P]? = some (.cells #[.int .i64 k, .string a0, .string o0, .int .i64 d0, vn, vl] 31)) := ⟨(HK.out.1.trans (Keep.of_below b5)).setCell _ _, hx5⟩
    clear b5 hx5
    go_wp2
    go_end0
    exact ⟨rfl, pb_set HF.out.2 3 _, HF.out.1⟩
end Go.Proofs.YtcdebinldmblkaaGreatDoor
namespace Go.Proofs.YtcdebinldmblkaaGreatDoor
open Go.ChangeShapes Go.WideShapes Go.ChangeAt Go.RowKit
theorem infoSg : (Tryz.prog.info? 46).map (fun i => (i.zero, i.size, i.bytes)) = some (some (.agg #[.string ⟨#[]⟩, .slice none 0 0]), 2, 40) := by kernel_rfl
end Go.Proofs.YtcdebinldmblkaaGreatDoor
namespace Go.Proofs.YtcdebinldmblkaaGreatDoor
open Go.ChangeShapes Go.WideShapes Go.ChangeAt Go.RowKit
theorem cellsL_app {gs : List Seg} {ps : List (Value × List Value)} (h : ps.length = gs.length) (hs : List Seg) (qs : List (Value × List Value)) : cellsL (gs ++ hs) (ps ++ qs) = cellsL gs ps ++ cellsL hs qs := by
  unfold cellsL
  rw [List.zip_append h.symm, List.flatMap_append]
theorem cellsL_len {gs : List Seg} {ps : List (Value × List Value)} (h : ps.length = gs.length) : (cellsL gs ps).length = gs.length * 2 := by
  induction gs generalizing ps with
  | nil => simp [cellsL]
  | cons g gs ih =>
    cases ps with
    | nil => simp at h
    | cons p ps =>
      have e : cellsL (g :: gs) (p :: ps) = .string g.1 :: p.1 :: cellsL gs ps := by simp [cellsL]
      rw [e]
      simp at h
      simp [ih h]
      omega
theorem OwnL.one {n : Nat} {W : World} {tag : ByteArray} {u : Value} {vals : List Value} {es : List (List ByteArray)} (h : OwnV n W u vals es) (hn : n ≤ W.heap.size) :
    OwnL n (W.alloc (.cells #[.string tag, u] 46)) (.slice (some ⟨W.heap.size, 0, none⟩) 1 1) [(u, vals)] [(tag, es)] := by
  have hb : Below W.heap.size W (W.alloc (.cells #[.string tag, u] 46)) := (Below.refl _ _).alloc (Nat.le_refl _) _
  refine ⟨rfl, ⟨by simp [cellsL], .inr ⟨W.heap.size, 1, #[.string tag, u], rfl, hn, World.alloc_heap_new W _, Nat.le_refl _, by unfold maxLen; omega, rfl, by simp [cellsL]⟩⟩, fun i p g hp hg => ?_, fun i j p q hij hp hq => ?_⟩
  · rcases i with _ | i
    · simp at hp hg
      subst hp hg
      exact h.below hb
    · simp at hp
  · rcases j with _ | j
    · omega
    · simp at hq
/-- Two lists, one behind the other. -/
theorem OwnL.app {n₀ : Nat} {W W2 w4 : World} {lv lv' mv : Value} {ps qs : List (Value × List Value)} {gs hs : List Seg} (h : OwnL n₀ W lv ps gs) (hn : n₀ ≤ W.heap.size) (hb2 : Below W.heap.size W W2) (h2 : OwnL W.heap.size W2 mv qs hs)
    (hown : w4.ownsRow n₀ 46 2 lv' (gs.length + hs.length) (cellsL gs ps ++ cellsL hs qs)) (hg : W2.grownBy w4 lv.ownBlock) : OwnL n₀ w4 lv' (ps ++ qs) (gs ++ hs) := by
  have h' := h.below hb2
  have hl := h.len
  have hl2 := h2.len
  refine ⟨by simp [hl, hl2], by rw [cellsL_app hl, List.length_append]; exact hown, fun i p g hp hg' => ?_, fun i j p q hij hp hq => ?_⟩
  · rcases Nat.lt_or_ge i ps.length with k | k
    · rw [List.getElem?_append_left k] at hp
      rw [List.getElem?_append_left (by omega)] at hg'
      exact (h'.segs i p g hp hg').grow2 hg h'.row
    · rw [List.getElem?_append_right k] at hp
      rw [List.getElem?_append_right (by omega), ← hl] at hg'
      exact ((h2.segs _ p g hp hg').mono hn).grow2 hg h'.row
  · rcases Nat.lt_or_ge j ps.length with k | k
    · rw [List.getElem?_append_left k] at hq
      rw [List.getElem?_append_left (by omega)] at hp
      exact h.sep i j p q hij hp hq
    · rw [List.getElem?_append_right k] at hq
      rcases Nat.lt_or_ge i ps.length with k' | k'
      · rw [List.getElem?_append_left k'] at hp
        intro x hx y hy b hb hb'
        have hi : i < gs.length := by omega
        have q1 := (h.segs i p _ hp (List.getElem?_eq_getElem hi)).base x hx b hb
        have hjl := (List.getElem?_eq_some_iff.1 hq).1
        have q2 := (h2.segs _ q _ hq (List.getElem?_eq_getElem (show j - ps.length < hs.length by omega))).base y hy b hb'
        omega
      · rw [List.getElem?_append_right k'] at hp
        exact h2.sep (i - ps.length) (j - ps.length) p q (by omega) hp hq
theorem cells_of_own {n : Nat} {W : World} {mv : Value} {qs : List (Value × List Value)} {hs : List Seg} (h : OwnL n W mv qs hs) (hpos : 0 < hs.length) : ∃ ad c, mv = .slice (some ad) hs.length c ∧ ∀ j u, (cellsL hs qs)[j]? = some u → W.cell? (ad.add j) = some u := by
  rcases h.row.2 with ⟨_, h0⟩ | ⟨g, cap, cur, e, _⟩
  · omega
  · subst e
    exact ⟨⟨g, 0, none⟩, cap, rfl, h.row.cells (g := g) rfl⟩
theorem cellsL_oneCell {n : Nat} {W : World} {mv : Value} {qs : List (Value × List Value)} {hs : List Seg} (h : OwnL n W mv qs hs) : ∀ u ∈ cellsL hs qs, u.oneCell' = true := by
  intro u hu
  unfold cellsL at hu
  rw [List.mem_flatMap] at hu
  obtain ⟨⟨g, p⟩, hx, hu⟩ := hu
  simp only [List.mem_cons, List.not_mem_nil, or_false] at hu
  rcases hu with rfl | rfl
  · simp [Value.oneCell']
  · obtain ⟨i, hi⟩ := List.mem_iff_getElem?.1 hx
    rw [List.getElem?_zip_eq_some] at hi
    obtain ⟨A, N, C, e⟩ := row_slice (h.segs i p g hi.2 hi.1).row
    rw [e]
    simp [Value.oneCell']
/-- An append of segments, at the list of a plain region's operations. -/
theorem wpList_app {ops : Array Oper} {rest : List Oper} {o : Oper} {a : Act} {Q : Exit → Act → World → Prop} {n₀ : Nat} {W W2 : World} {lv mv : Value} {ps qs : List (Value × List Value)} {gs hs : List Seg} (hgd : o.guard = none) (s x : Operand)
    (ho : o.op = .call { callee := .builtin .append, args := #[s, x], argTypes := #[27, 27] })
    (hs' : a.eval s = lv) (hx : a.eval x = mv) (h : OwnL n₀ W lv ps gs) (hn : n₀ ≤ W.heap.size) (hb2 : Below W.heap.size W W2) (h2 : OwnL W.heap.size W2 mv qs hs) (hl : gs.length + hs.length ≤ 3000000) (hpos : 0 < hs.length)
    (k : ∀ A C w4, OwnL n₀ w4 (.slice A (gs.length + hs.length) C) (ps ++ qs) (gs ++ hs) → Below n₀ W2 w4 → wpList Tryz.prog ops Q rest (a.put o.dst (.slice A (gs.length + hs.length) C)) w4) : wpList Tryz.prog ops Q (o :: rest) a W2 := by
  obtain ⟨i0, hi, hz0, hz1, hz2⟩ := info_parts infoSg
  obtain ⟨ad, c, e, hc⟩ := cells_of_own h2 hpos
  have h' := h.below hb2
  refine wpList_append_own W2 hgd s x 27 ho n₀ 46 i0 (.agg #[.string ⟨#[]⟩, .slice none 0 0]) 2 40 Tryz.underlying27 hi hz0 hz1 hz2 rfl (by decide) lv gs.length (cellsL gs ps) hs' h'.row ad hs.length c (cellsL hs qs) (by rw [hx, e]) (cellsL_len h2.len) hc (cellsL_oneCell h2) (by unfold maxLen; omega) (by omega) (Nat.le_trans hn hb2.size) ?_
  intro v' w4 hown hgrow _
  obtain ⟨A, C, hv⟩ : ∃ A C, v' = .slice A (gs.length + hs.length) C := by
    rcases hown.2 with ⟨rfl, h0⟩ | ⟨g, cap, cur, rfl, _⟩
    · exact ⟨none, 0, by rw [h0]⟩
    · exact ⟨_, _, rfl⟩
  subst hv
  refine k A C w4 (h.app hn hb2 h2 hown hgrow) ⟨hgrow.os, hgrow.tape, hgrow.output, hgrow.size, fun q hq => hgrow.block q (by have := hb2.size; omega) (row2_ne h'.row hq).symm⟩
end Go.Proofs.YtcdebinldmblkaaGreatDoor
namespace Go.Proofs.YtcdebinldmblkaaGreatDoor
open Go.ChangeShapes Go.WideShapes Go.ChangeAt Go.RowKit
theorem own_rowT {W : World} {n₀ n : Nat} {v : Value} {ss : List ByteArray} (h : W.ownsRow n₀ 9 1 v n (ss.map Value.string)) (hn : n = ss.length) (hl : ss.length ≤ 1048576) (hz : ∀ t ∈ ss, t.size ≤ 1048576) : RowS W v ss := by
  subst hn
  refine ⟨?_, by omega, fun i t hi => Nat.le_trans (hz t (List.mem_of_getElem? hi)) (by omega)⟩
  rcases h.2 with ⟨rfl, h0⟩ | ⟨g, cap, cur, rfl, _⟩
  · exact ⟨none, 0, by rw [h0], fun hn => absurd (List.length_eq_zero_iff.1 h0) hn⟩
  · refine ⟨_, _, rfl, fun _ => ⟨g, 0, rfl, fun i t hi => ?_⟩⟩
    have h1 := h.cells (g := g) rfl i (.string t) (by simp [hi])
    have e : (⟨g, 0, none⟩ : Addr).add i = ⟨g, 0 + i, none⟩ := by unfold Addr.add; split <;> simp_all
    rwa [e] at h1
/-- Segments of at most ten elements of one part each. -/
def Bd1 (gs : List Seg) : Prop := ∀ g ∈ gs, g.1.size ≤ 1048576 ∧ g.2.length ≤ 10 ∧ ∀ e ∈ g.2, e.length = 1 ∧ ∀ t ∈ e, t.size ≤ 1048576
theorem OwnV.rowT {n₀ : Nat} {W : World} {v : Value} {vals : List Value} {es : List (List ByteArray)} (h : OwnV n₀ W v vals es) (hX : ∀ e ∈ es, e.length = 1 ∧ ∀ t ∈ e, t.size ≤ 1048576) (hl : es.length ≤ 1048576) : RowE W v es := by
  refine ⟨?_, by omega⟩
  rcases h.row.2 with ⟨rfl, h0⟩ | ⟨g, cap, cur, rfl, _⟩
  · exact ⟨none, 0, by rw [h0], fun hn => absurd (List.length_eq_zero_iff.1 h0) hn⟩
  · refine ⟨_, _, rfl, fun _ => ⟨g, 0, rfl, fun i e hi => ?_⟩⟩
    have hlt := (List.getElem?_eq_some_iff.1 hi).1
    have hv : vals[i]? = some (vals[i]'(by rw [h.len]; exact hlt)) := List.getElem?_eq_getElem _
    have h1 := h.row.cells (g := g) rfl i _ hv
    have e1 : (⟨g, 0, none⟩ : Addr).add i = ⟨g, 0 + i, none⟩ := by unfold Addr.add; split <;> simp_all
    rw [e1] at h1
    have hx := hX e (List.mem_of_getElem? hi)
    exact ⟨_, h1, own_rowT (h.parts i _ e hv hi).1 rfl (by omega) hx.2⟩
theorem OwnL.rowT {n₀ : Nat} {W : World} {v : Value} {ps : List (Value × List Value)} {gs : List Seg} (h : OwnL n₀ W v ps gs) (hX : Bd1 gs) (hl : gs.length ≤ 3000000) : RowG W v gs := by
  refine ⟨?_, by omega, fun i g hi => by have := (hX g (List.mem_of_getElem? hi)).1; omega⟩
  rcases h.row.2 with ⟨rfl, h0⟩ | ⟨g, cap, cur, rfl, _⟩
  · exact ⟨none, 0, by rw [h0], fun hn => absurd (List.length_eq_zero_iff.1 h0) hn⟩
  · refine ⟨_, _, rfl, fun _ => ⟨g, 0, rfl, fun i e hi => ?_⟩⟩
    have hlt := (List.getElem?_eq_some_iff.1 hi).1
    have hv : ps[i]? = some (ps[i]'(by rw [h.len]; exact hlt)) := List.getElem?_eq_getElem _
    obtain ⟨g1, g2⟩ := cellsL_get hi hv
    have h1 := h.row.cells (g := g) rfl _ _ g1
    have h2 := h.row.cells (g := g) rfl _ _ g2
    have e1 : ∀ i, (⟨g, 0, none⟩ : Addr).add i = ⟨g, 0 + i, none⟩ := fun i => by unfold Addr.add; split <;> simp_all
    rw [e1] at h1 h2
    have hx := hX e (List.mem_of_getElem? hi)
    exact ⟨h1, _, h2, (h.segs i _ e hv hi).rowT hx.2.2 (by omega)⟩
theorem fullW_bd {k : Int} {l : Ln} (hI : LnI l) (hz : l.item.size ≤ 1048576 ∧ l.note.size ≤ 1048576) : ∀ t ∈ fullW k l, t.size ≤ 9223372036854775807 := by
  have h0 := (decS_long l.no hI.1.1 hI.1.2).2
  have h1 := (decS_long l.qty hI.2.1.1 hI.2.1.2).2
  have h2 : (unlN l.money).size ≤ 20 := by
    unfold unlN
    split
    · exact Nat.zero_le _
    · exact (decS_long l.money hI.2.2.1 hI.2.2.2).2
  unfold fullW
  repeat' split
  all_goals
    intro t ht
    simp only [List.mem_cons, List.not_mem_nil, or_false] at ht
    rcases ht with rfl | rfl | rfl | rfl <;> omega
theorem wordsI_bd {k : Int} {l : Ln} (hI : LnI l) (hz : l.item.size ≤ 1048576 ∧ l.note.size ≤ 1048576) : (wordsI k l).length ≤ 4 ∧ ∀ t ∈ wordsI k l, t.size ≤ 1048576 := by
  have h0 := (decS_long l.no hI.1.1 hI.1.2).2
  have h1 := (decS_long l.qty hI.2.1.1 hI.2.1.2).2
  have h2 := (decS_long l.money hI.2.2.1 hI.2.2.2).2
  unfold wordsI optN optT
  repeat' split
  all_goals
    refine ⟨by simp, fun t ht => ?_⟩
    simp only [List.mem_append, List.mem_cons, List.not_mem_nil, or_false] at ht
    rcases ht with (rfl | rfl | rfl) | rfl | (rfl | rfl) | rfl | rfl | rfl <;> omega
end Go.Proofs.YtcdebinldmblkaaGreatDoor
