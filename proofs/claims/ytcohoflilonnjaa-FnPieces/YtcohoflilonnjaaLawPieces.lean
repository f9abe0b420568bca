/- FnPieces returns true at every list of bytes and leaves it as it was: the pieces at which a drawn text is cut are, with the mark between, that text again, and as many as the model tells; no condition. -/
import Derived.Test.YtcohoflilonnjaaListsCut
import Derived.Test.YtcohoflilonnjaaCutBoth
import Derived.Test.YtcohoflilonnjaaDrawCut
import Derived.Lib.AppendStr
namespace Go.Proofs.Ytcohoflilonnjaa
open Go.ChangeShapes Go.WideShapes Go.ChangeAt Go.RowKit
set_option linter.unusedVariables false
namespace fnPieces
def IsRow (k : IntKind) (w : World) (a : Option Addr) (len cap : Nat) (zs : List Int) : Prop :=
  (a = none ∧ len = 0 ∧ cap = 0 ∧ zs = []) ∨
  ∃ x, a = some x ∧ len ≤ cap ∧ cap ≤ maxLen ∧ zs.length = cap ∧ (∀ i, i < zs.length → w.cell? (x.add i) = some (.int k (zs.getD i 0))) ∧ ∀ n ∈ zs, (Lit.int k n).wf = true
theorem IsRow.bytesAt {w : World} {a : Option Addr} {len cap : Nat} {zs : List Int} (h : IsRow .u8 w a len cap zs) : BytesAt w a len zs := by
  intro g
  rcases h with ⟨_, rfl, _, _⟩ | ⟨x, rfl, hl, _, hz, hc, _⟩
  · omega
  · obtain ⟨b, off, spot⟩ := x
    have h0 := hc 0 (by omega)
    have hspot : spot = none := by simpa [Addr.add] using World.cell?_spot h0
    subst hspot
    refine ⟨b, off, rfl, fun i hi => ?_⟩
    have hplain : (⟨b, off, none⟩ : Addr).add i = ⟨b, off + i, none⟩ := by unfold Addr.add; split <;> simp_all
    have := hc i (by omega)
    rw [hplain] at this
    simpa [List.getD] using this
theorem IsRow.len_le {w : World} {a : Option Addr} {len cap : Nat} {zs : List Int} (h : IsRow .u8 w a len cap zs) : len ≤ 9223372036854775807 := by
  rcases h with ⟨_, rfl, _, _⟩ | ⟨x, rfl, hl, hm, hz, hc, _⟩
  · omega
  · unfold maxLen at hm
    omega
/-- A row of bytes of the call's own, beside the block of the pieces. -/
structure PI (G : Nat) (o : Obj) (w W : World) (v : Value) (xs : List Int) : Prop where
  row : W.ownsRow w.heap.size 5 1 v xs.length (xs.map (Value.int .u8))
  fx : W.heap[G]? = some o
  ob : ∃ c t, o = .cells c t ∧ t ≠ 5
  bel : Below w.heap.size w W
theorem PI.grow {G : Nat} {o : Obj} {w W W0 w1 : World} {v v' : Value} {xs ys : List Int} (h : PI G o w W v xs) (h0 : Below W.heap.size W W0)
    (hown' : w1.ownsRow w.heap.size 5 1 v' ys.length (ys.map (Value.int .u8))) (hgrow : W0.grownBy w1 v.ownBlock) : PI G o w w1 v' ys := by
  obtain ⟨c, t, e1, e2⟩ := h.ob
  have hlt := (Array.getElem?_eq_some_iff.1 h.fx).1
  have hsz := h.bel.size
  have hs0 := h0.size
  refine ⟨hown', ?_, h.ob, (h.bel.trans (h0.mono hsz)).grown hgrow (by omega) (row_base h.row)⟩
  rw [hgrow.block G (by omega) (row_not_obj h.row (by rw [h.fx, e1]) e2), h0.block G hlt]
  exact h.fx
theorem strCells_nums (s : ByteArray) : Go.Lib.strCells s = (s.data.toList.map fun x => (x.toNat : Int)).map (Value.int .u8) := by
  unfold Go.Lib.strCells
  rw [List.map_map]
  rfl
theorem PI.text {G : Nat} {o : Obj} {w W w1 : World} {v v' : Value} {xs : List Int} (s : ByteArray) (h : PI G o w W v xs)
    (hown' : w1.ownsRow w.heap.size 5 1 v' (xs.length + s.size) (xs.map (Value.int .u8) ++ Go.Lib.strCells s)) (hgrow : W.grownBy w1 v.ownBlock) : PI G o w w1 v' (xs ++ s.data.toList.map fun x => (x.toNat : Int)) := by
  refine h.grow (Below.refl _ _) ?_ hgrow
  rw [strCells_nums, ← List.map_append] at hown'
  have : (xs ++ s.data.toList.map fun x => (x.toNat : Int)).length = xs.length + s.size := by simp
  rw [this]
  exact hown'
theorem jn_len (y : Int) (ps : List (List Int)) (k : Nat) : ∀ n, k ≤ n → (jn y ps k).length ≤ (jn y ps n).length := by
  intro n
  induction n with
  | zero =>
    intro h
    have hk : k = 0 := by omega
    rw [hk]
    exact Nat.le_refl _
  | succ n ih =>
    intro h
    rcases Nat.lt_or_ge k (n + 1) with g | g
    · have := ih (by omega)
      simp only [jn, List.length_append]
      omega
    · have hk : k = n + 1 := by omega
      rw [hk]
      exact Nat.le_refl _
theorem sn_app (l m : List Int) : (strOfNums (l ++ m)).data.toList = (strOfNums l).data.toList ++ (strOfNums m).data.toList := by
  rw [strOfNums_data, strOfNums_data, strOfNums_data, List.map_append]
theorem sn_ext {l m : List Int} (h : (strOfNums l).data.toList = (strOfNums m).data.toList) : strOfNums l = strOfNums m := by
  apply ByteArray.ext
  exact Array.toList_inj.1 h
theorem sn_nums (s : ByteArray) : (strOfNums (s.data.toList.map fun x => (x.toNat : Int))).data.toList = s.data.toList := by rw [strOfNums_self]
/-- What a round joins. -/
theorem sn_round {y : Int} {ps : List (List Int)} {k : Nat} {xs : List Int} (h : strOfNums xs = strOfNums (jn y ps k)) (p : List Int) (hp : ps[k]? = some p) (sep : List Int) (hs : sep = if k = 0 then [] else [y]) :
    strOfNums (xs ++ sep ++ ((strOfNums p).data.toList.map fun x => (x.toNat : Int))) = strOfNums (jn y ps (k + 1)) := by
  apply sn_ext
  have h' : (strOfNums xs).data.toList = (strOfNums (jn y ps k)).data.toList := by rw [h]
  simp only [jn, hp, Option.getD_some]
  rw [sn_app, sn_app, sn_nums, sn_app, sn_app, h', hs]
/-- What stands in the law: nothing old has turned, and the drawn syntax lies in its block. -/
def LS (w0 W : World) (S : Nat) (a b c d : Int) : Prop := Below w0.heap.size w0 W ∧ Box4 W S a b c d
theorem LS.below {w0 W W' : World} {S : Nat} {a b c d : Int} (h : LS w0 W S a b c d) (hb : Below W.heap.size W W') : LS w0 W' S a b c d := ⟨h.1.trans (hb.mono h.1.size), h.2.keep (Keep.of_below (B := S + 1) hb) (by omega)⟩
theorem mark_bd {c : Int} (h : markB c = true) : 33 ≤ c ∧ c ≤ 126 := by
  unfold markB at h
  have := of_decide_eq_true h
  omega
theorem cut_some {a b c d y : Int} {s : ByteArray} (h : cutP a b c d s y ≠ []) : (33 ≤ y ∧ y ≤ 126) ∧ cutP a b c d s y = (cutZ y (upto s d s.size)).1 ++ [(cutZ y (upto s d s.size)).2] := by
  unfold cutP at h ⊢
  split at h
  · rename_i g
    obtain ⟨_, hr, hy⟩ := g
    refine ⟨?_, by rw [if_pos ⟨by assumption, hr, hy⟩]⟩
    rw [rightB_eq] at hr
    simp only [Bool.and_eq_true] at hr
    unfold cutB at hy
    simp only [Bool.or_eq_true, beq_iff_eq] at hy
    rcases hy with rfl | rfl | rfl
    · exact mark_bd hr.1
    · exact mark_bd hr.2.1.1
    · exact mark_bd hr.2.2.1.1
  · exact absurd rfl h
set_option maxRecDepth 20000 in
set_option maxHeartbeats 4000000 in
theorem walk (a0 : Option Addr) (len0 cap0 : Nat) (z0 : List Int) (w : World) (w0 : IsRow .u8 w a0 len0 cap0 z0) :
    Calls Try.prog 7 #[.slice a0 len0 cap0] w fun e w' => e = .returned (.bool true) ∧ Below w.heap.size w w' := by
  have hl0 := w0.len_le
  have HR : Hid (BytesAt w a0 len0 z0) := w0.bytesAt
  clear w0
  by_cases hg : 1048576 < len0
  · have hg' : (1048576 : Int) < (len0 : Int) := by omega
    clear HR
    go_enter Try.func7, Try.ntmps7
    go_wp2
    go_ret
    exact ⟨rfl, Below.refl _ _⟩
  have hg' : (len0 : Int) ≤ 1048576 := by omega
  obtain ⟨i0, hi, hz0, hz1, hz2⟩ := info_parts info5
  go_enter Try.func7, Try.ntmps7
  go_wp2_with fail
  refine (drawCutAt_any a0 len0 cap0 z0 _ (by omega) HR.out).mono ?_
  rintro e w1 ⟨a, b, c, d, t, y, rfl, ht, hb1⟩
  have hL1 : LS w (w1.alloc (.cells #[.int .i64 a, .int .i64 b, .int .i64 c, .int .i64 d] 24)) w1.heap.size a b c d := ⟨hb1.alloc hb1.size _, Box4.new w1 _ a b c d⟩
  clear hb1 HR
  go_wp2_with fail
  refine (cut_spec a b c d t y _).mono ?_
  rintro e w2 ⟨v1, rfl, hrow1, hb2⟩
  have hL2 := hL1.below hb2
  have x0 := hL2.2.c0
  have x1 := hL2.2.c1
  have x2 := hL2.2.c2
  have x3 := hL2.2.c3
  obtain ⟨A1, cap1, rfl⟩ : ∃ A1 cap1, v1 = .slice A1 (cutP a b c d t y).length cap1 := by
    rcases hrow1.2 with ⟨rfl, h⟩ | ⟨g, cap, cur, rfl, _⟩
    · exact ⟨_, _, by rw [h]⟩
    · exact ⟨_, _, rfl⟩
  clear hrow1 hL1 hb2
  go_wp2_with fail
  refine (cut_impl a b c d t y _).mono ?_
  rintro e w3 ⟨v, rfl, hrow, hb3⟩
  have hB3 : Below w.heap.size w w3 := (hL2.below hb3).1
  have hs3 : w.heap.size ≤ w2.heap.size := hL2.1.size
  clear hL2 hb3 x0 x1 x2 x3
  have hlm := hrow.1
  rcases hrow.2 with ⟨rfl, h0⟩ | ⟨g, cap, cur, rfl, hgb, hg3, _⟩
  · have HB : Hid (Below w.heap.size w w3) := hB3
    clear hB3 hrow
    rw [h0]
    go_wp2
    go_ret
    exact ⟨rfl, HB.out⟩
  by_cases hn : cutP a b c d t y = []
  · have h0 : (cutP a b c d t y).length = 0 := by rw [hn]; rfl
    have HB : Hid (Below w.heap.size w w3) := hB3
    clear hB3 hrow hg3
    rw [h0]
    go_wp2
    go_ret
    exact ⟨rfl, HB.out⟩
  obtain ⟨hy, hcp⟩ := cut_some hn
  have htx : strOfNums (jn y (cutP a b c d t y) (cutP a b c d t y).length) = t := by
    rw [hcp, show ((cutZ y (upto t d t.size)).1 ++ [(cutZ y (upto t d t.size)).2]).length = (cutZ y (upto t d t.size)).1.length + 1 by simp]
    exact jn_text t d y
  have hjl : (jn y (cutP a b c d t y) (cutP a b c d t y).length).length = t.size := by rw [← strOfNums_size, htx]
  have hcell : ∀ k p, (cutP a b c d t y)[k]? = some p → w3.cell? ⟨g, k, none⟩ = some (.string (strOfNums p)) := fun k p hk => by
    have h := hrow.cells (g := g) rfl k (.string (strOfNums p)) (by simp [strs, hk])
    have e : (⟨g, 0, none⟩ : Addr).add k = ⟨g, k, none⟩ := by unfold Addr.add; split <;> simp_all
    rwa [e] at h
  have hnl : (cutP a b c d t y).length ≤ 25 := by
    have := (cutZ_len y (upto t d t.size)).1
    rw [upto_length] at this
    rw [hcp]
    simp
    omega
  have hpos : 0 < (cutP a b c d t y).length := List.length_pos_iff.2 hn
  have HH : Hid (strOfNums (jn y (cutP a b c d t y) (cutP a b c d t y).length) = t ∧ (∀ k p, (cutP a b c d t y)[k]? = some p → w3.cell? ⟨g, k, none⟩ = some (.string (strOfNums p))) ∧ (jn y (cutP a b c d t y) (cutP a b c d t y).length).length = t.size ∧ cutP a b c d t y ≠ []) := ⟨htx, hcell, hjl, hn⟩
  clear htx hcell hjl hcp hn hrow
  generalize hP : cutP a b c d t y = P at *
  clear hP
  have hne0 : ((P.length : Int) == 0) = false := by rw [beq_eq_false_iff_ne]; omega
  go_wp2
  go_loopw [8, 9] (fun v i wr => ∃ (k : Nat) (xs : List Int), i = .int .i64 (k : Int) ∧ k ≤ P.length ∧ strOfNums xs = strOfNums (jn y P k) ∧ PI g (.cells cur 9) w wr v xs) (fun _ i _ => P.length - (intOf i).toNat)
  case atStart =>
    refine ⟨0, [], rfl, by omega, rfl, ?_, (Below.heap_alloc _ _ _ (Array.getElem?_eq_some_iff.1 hg3).1).trans hg3, ⟨_, _, rfl, by decide⟩, hB3.alloc hB3.size _⟩
    have := World.ownsRow_made (base := w.heap.size) (e := 5) (size := 1) w3 #[] 0 hB3.size (by unfold maxLen; omega) (by simp)
    simpa using this
  case round =>
    obtain ⟨k, xs, rfl, hk, hx, hW⟩ := hrel
    have hxl : xs.length = (jn y P k).length := by
      have := congrArg ByteArray.size hx
      rwa [strOfNums_size, strOfNums_size] at this
    have hjk := jn_len y P k P.length hk
    have hjl := HH.out.2.2.1
    by_cases hlt : k < P.length
    · have hlt' : (k : Int) < (P.length : Int) := by omega
      obtain ⟨p, hp⟩ : ∃ p, P[k]? = some p := ⟨_, List.getElem?_eq_getElem hlt⟩
      have hck : wr.cell? ⟨g, k, none⟩ = some (.string (strOfNums p)) := (World.cell?_of_block (w := w3) (hW.fx.trans hg3.symm)).trans (HH.out.2.1 k p hp)
      have hjk1 := jn_len y P (k + 1) P.length hlt
      have hpl : (strOfNums p).size ≤ 24 := by
        rw [strOfNums_size]
        simp only [jn, hp, Option.getD_some, List.length_append] at hjk1
        omega
      have hmx : xs.length + 1 ≤ maxLen := by unfold maxLen; omega
      have hmx0 : xs.length + (strOfNums p).size ≤ maxLen := by unfold maxLen; omega
      have hmx1 : xs.length + 1 + (strOfNums p).size ≤ maxLen := by unfold maxLen; omega
      have hxb : xs.length ≤ 24 := by omega
      have HX : Hid (strOfNums xs = strOfNums (jn y P k) ∧ P[k]? = some p) := ⟨hx, hp⟩
      have hwsz := hW.bel.size
      clear hx hp hjk hjl hjk1 hxl
      have tok1 : True := trivial
      have tok2 : True := trivial
      rcases Nat.eq_zero_or_pos k with rfl | hk0
      · go_wp2_with (at_builtin; have _t := tok2; refine Go.Lib.wpList_append_own_string _ rfl _ _ 22 9 rfl w.heap.size 5 i0 Try.underlying22 Try.underlying9 hi hz0 hz1 hz2 _ _ _ rfl hW.row (strOfNums p) rfl hmx0 (by omega) hwsz ?_; intro u' w4 hown' hgrow _; have hC4 := hW.text (strOfNums p) hown' hgrow; clear tok2 hown' hgrow)
        go_roundw
        case rel => exact ⟨1, _, by go_num, by omega, by simpa using sn_round HX.out.1 p HX.out.2 [] rfl, hC4⟩
        case measure => simp [intOf]; omega
      · have hk0' : 0 < (k : Int) := by omega
        go_wp2_with (first | (at_builtin; have _t := tok1; refine wpList_append_own _ rfl _ _ 22 rfl w.heap.size 5 i0 (.int .u8 0) 1 1 Try.underlying22 hi hz0 hz1 hz2 rfl (by decide) _ _ _ rfl (hW.row.alloc _) ⟨_, 0, none⟩ 1 1 [.int .u8 y] rfl rfl (cell_one_at _ _ _ _ (by simp)) (by simp [Value.oneCell']) hmx (by omega) (by simp; omega) ?_; intro u' w4 hown' hgrow _; have hC4 := hW.grow (ys := xs ++ [y]) ((Below.refl _ _).alloc (Nat.le_refl _) _) (by simpa using hown') hgrow; have hk4 : w4.cell? ⟨g, k, none⟩ = some (.string (strOfNums p)) := (World.cell?_of_block (w := wr) (hC4.fx.trans hW.fx.symm)).trans hck; have hs4 := hC4.bel.size; clear tok1 hown' hgrow) | (at_builtin; have _t := tok2; refine Go.Lib.wpList_append_own_string _ rfl _ _ 22 9 rfl w.heap.size 5 i0 Try.underlying22 Try.underlying9 hi hz0 hz1 hz2 _ _ _ rfl hC4.row (strOfNums p) rfl (by simpa using hmx1) (by simp; omega) hs4 ?_; intro u'' w5 hown5 hgrow5 _; have hC5 := hC4.text (strOfNums p) hown5 hgrow5; clear tok2 hown5 hgrow5))
        go_roundw
        case rel => exact ⟨k + 1, _, by go_num, by omega, sn_round HX.out.1 p HX.out.2 [y] (by rw [if_neg (by omega)]), hC5⟩
        case measure => simp [intOf]; omega
    · obtain rfl : k = P.length := by omega
      have hcv := conv_row hW.row
      rw [hx, HH.out.1] at hcv
      have HW : Hid (Below w.heap.size w wr) := hW.bel
      clear hx hW hxl hjk hjl
      go_wp2
      go_ret
      exact ⟨ret_bool (by simp), HW.out⟩
theorem own : ownKnob Try.prog.godebug = none := by kernel_rfl
theorem laidOut : laidOutB Try.prog = true := by kernel_rfl
set_option maxRecDepth 100000 in
theorem lifted (os : Os) (started : os.Started) (H : Type) (enc : TypeId × Value → H) :
    ReturnsInHanded {} Try.checked os 7 .any (Rows.fnPiecesSpec.pre6 enc Try.prog Try.f7 Rows.fnPiecesRow.domain false) (Rows.fnPiecesSpec.post enc Try.prog Try.f7 false true false false) := by
  refine returnsInHanded_of_change (C := Try.checked) own started (by kernel_rfl) Try.func7
    (ChangeSpec.witness6 (enc := enc) (C := Try.checked) false ⟨#[], #[.slice none 0 0], []⟩ 8 (by kernel_rfl) (by kernel_rfl) (by kernel_rfl) (by kernel_rfl)) ?_
  intro W base args ds gs before hval0 hW hcnd _
  have hval : ∀ (j : Nat) t v, Try.f7.params[j]? = some t → args[j]? = some v → Value.okWide Try.prog W .any base t v := hval0
  have hW' := hW
  obtain ⟨p, q, hA0, hV, rfl, hfz, hnd⟩ := hW
  have hA : DataW.TrodAll enc Try.prog W 0 (fun _ => true) true Try.f7.params.toList args.toList ds p := hA0
  rw [Try.params7] at hA hval
  obtain ⟨v0, vs0, d0, ds0, p0, q0, hargs, rfl, rfl, h0, r0⟩ := trodAll_cons hA
  obtain ⟨rfl, rfl, rfl⟩ := trodAll_nil r0
  obtain rfl : args = #[v0] := by cases args; simp_all
  obtain ⟨rfl, rfl⟩ := trodVars_none hV
  obtain ⟨a0, len0, cap0, rfl⟩ := okWide_slice Try.underlying22 (hval 0 22 v0 rfl rfl)
  have k0 := h0
  have lt0 : ∀ x ∈ p0, x.block < W.heap.size := by obtain ⟨m, hm⟩ := k0; exact DataW.trod_lt m _ _ _ hm
  obtain ⟨z0, w0⟩ : ∃ zs, IsRow .u8 W a0 len0 cap0 zs := by
    obtain ⟨fuel, hf⟩ := h0
    rcases open_ints Try.underlying22 Try.underlying5 (by kernel_rfl) hf with ⟨hcs, _⟩ | ⟨x, l, c, zs, hcs, _, hl, hm, hz, _, hcell, hwz⟩
    · simp [Value.cells] at hcs
      obtain ⟨rfl, rfl, rfl⟩ := hcs
      exact ⟨[], .inl ⟨rfl, rfl, rfl, rfl⟩⟩
    · simp [Value.cells] at hcs
      obtain ⟨rfl, rfl, rfl⟩ := hcs
      exact ⟨zs, .inr ⟨_, rfl, hl, hm, by simpa using hz, hcell, hwz⟩⟩
  clear hA0 hval0
  refine (walk a0 len0 cap0 z0 W w0).mono fun e W' ⟨he, bel⟩ => ?_
  subst he
  exact ⟨_, rfl, _, _, _, [], _, [], hW', trodAll_mk1 (shut_bool Try.underlying4 _), (trodAll_cons_mk (Below.trod laidOut (by kernel_rfl) (of_decide_eq_true (by kernel_rfl)) k0 bel lt0) trodAll_mk0), rfl, bel.frame _, fun h => by cases h⟩
theorem over : Rows.fnPiecesRow.holds Try.pinned (OpenSpec.ofChange Rows.fnPiecesSpec) :=
  OpenClaim.holds_of_wide 7 Try.f7 rfl rfl rfl rfl rfl rfl rfl ⟨rfl, rfl, rfl, rfl, rfl⟩ rfl rfl rfl rfl rfl (by kernel_rfl) Try.func7 (by kernel_rfl)
    (of_decide_eq_true (by kernel_rfl)) (by unfold Func.isWrapper; first | (rw [if_pos (by decide +kernel)]; kernel_rfl) | (rw [if_neg (by decide +kernel)]; exact ⟨rfl, rfl⟩))
    (fun os started H enc _ => lifted os started H enc)
end fnPieces
theorem fnPieces_holds : Rows.FnPiecesSaid := fnPieces.over
#print axioms fnPieces_holds
end Go.Proofs.Ytcohoflilonnjaa
