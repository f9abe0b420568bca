/- FnTables returns true at every text and leaves it as it was: each segment of a drawn body that its table takes is of the form of its row; without its first one the body is told to lack it. Conditions: none but what the card ties. -/
import Derived.Test.YtphgheojfnlgjaaDoorTcS
import Derived.Test.YtphgheojfnlgjaaDoorTcI
import Derived.Test.YtphgheojfnlgjaaDoorFormI
import Derived.Test.YtphgheojfnlgjaaDoorTabRow
import Derived.Test.YtphgheojfnlgjaaDoorKindN
import Derived.Deep.RegionHeld3
import Derived.Deep.RegionLaw
import Derived.Deep.AppendLies
import Derived.Laws.StructEq
import Derived.Laws.AppendOwnNone
import Derived.Deep.Cut
import Derived.Deep.CutRange
import Derived.Deep.QuietTactic
import Derived.BigQuiet
import Derived.Test.YtphgheojfnlgjaaDoorCards
import Derived.Test.YtphgheojfnlgjaaDoorTie
import Derived.Lib.SmallJoins
import Derived.OpenVars
import Derived.Stop.Joined
import Derived.LaidMore
import Derived.SevenTiedAt
import Derived.Lay
import Derived.MakeChecks
import Derived.Test.YtphgheojfnlgjaaDoorTcP
import Derived.Test.YtphgheojfnlgjaaDoorNum
import Derived.LaidLaws
import Derived.Stop.LaidErr
import Derived.Test.YtphgheojfnlgjaaDoorTab
import Derived.Test.YtphgheojfnlgjaaDoorTbB
namespace Go.Proofs.YtphgheojfnlgjaaDoor
theorem frGo_neg (ls : List UInt8) (m : Nat) : ∀ (es : List (List ByteArray)) (k : Nat), frGo ls m es k = -1 ∨ 0 ≤ frGo ls m es k := by
  intro es
  induction es with
  | nil =>
    intro k
    unfold frGo
    split
    · exact .inr (by omega)
    · exact .inl rfl
  | cons e r ih =>
    intro k
    unfold frGo
    split
    · exact .inr (by omega)
    · split
      · exact .inr (by omega)
      · exact ih (k + 1)
theorem frV_neg (f : ByteArray) (es : List (List ByteArray)) : frV f es = -1 ∨ 0 ≤ frV f es := by
  unfold frV
  split
  · exact .inr (by omega)
  · split
    · exact .inr (by omega)
    · exact frGo_neg _ _ _ _
theorem tk_in (r : TRow) : ∀ (l : List Seg) (c : Nat), ¬ 0 ≤ (tk r l c).2 → ∀ j, c ≤ j → j < (tk r l c).1 → ∃ g, l[j - c]? = some g ∧ g.1 = bs r.tag ∧ frV (bs r.form) g.2 = -1 := by
  intro l
  induction l with
  | nil =>
    intro c _ j h1 h2
    simp only [tk] at h2
    omega
  | cons g l ih =>
    intro c h j h1 h2
    unfold tk at h h2
    split at h2
    · simp only at h2
      omega
    · rename_i hm
      rw [if_neg hm] at h
      split at h2
      · simp only at h2
        omega
      · rename_i hf
        rw [if_neg hf] at h
        rcases Nat.eq_or_lt_of_le h1 with rfl | h3
        · refine ⟨g, by simp, ?_, ?_⟩
          · apply Classical.byContradiction
            intro q
            exact hm (.inr q)
          · rcases frV_neg (bs r.form) g.2 with q | q
            · exact q
            · exact absurd q hf
        · obtain ⟨x, k1, k2, k3⟩ := ih (c + 1) h j h3 h2
          refine ⟨x, ?_, k2, k3⟩
          rw [show j - c = (j - (c + 1)) + 1 by omega, List.getElem?_cons_succ]
          exact k1
theorem tc_in (body : List Seg) : ∀ (rs : List TRow) (a : Nat) (last : ByteArray), (tc body rs a last).2.2 = 0 → ∀ j, a ≤ j → j < body.length → ∃ (k : Nat) (r : TRow) (g : Seg), rs[k]? = some r ∧ body[j]? = some g ∧ g.1 = bs r.tag ∧ frV (bs r.form) g.2 = -1 := by
  intro rs
  induction rs with
  | nil =>
    intro a last h j h1 h2
    unfold tc at h
    split at h
    · omega
    · split at h <;> simp at h
  | cons r rs ih =>
    intro a last h j h1 h2
    unfold tc at h
    split at h
    · simp at h
    · rename_i hk
      split at h
      · simp at h
      · rcases Nat.lt_or_ge j (a + (tk r (body.drop a) 0).1) with q | q
        · obtain ⟨g, k1, k2, k3⟩ := tk_in r (body.drop a) 0 hk (j - a) (Nat.zero_le _) (by omega)
          refine ⟨0, r, g, rfl, ?_, k2, k3⟩
          rw [List.getElem?_drop] at k1
          rw [← k1]
          congr 1
          omega
        · obtain ⟨k, x, g, k1, k2⟩ := ih _ _ h j q h2
          exact ⟨k + 1, x, g, k1, k2⟩
theorem rows_doc {n : Int} (h : 1 ≤ n ∧ n ≤ 7) : ∃ d rs, rowsI n = d :: rs ∧ d.tag = [68, 79, 67] ∧ d.least = 1 ∧ d.most = 1 ∧ ∀ r ∈ rs, r.tag ≠ [68, 79, 67] := by
  obtain rfl | rfl | rfl | rfl | rfl | rfl | rfl : n = 1 ∨ n = 2 ∨ n = 3 ∨ n = 4 ∨ n = 5 ∨ n = 6 ∨ n = 7 := by omega
  all_goals exact ⟨_, _, rfl, rfl, rfl, rfl, by decide⟩
theorem bs_inj {a b : List UInt8} (h : bs a = bs b) : a = b := by
  unfold bs at h
  simp only [ByteArray.mk.injEq, Array.mk.injEq] at h
  exact h
theorem tcV_each {n : Int} {body : List Seg} (h : (tcV n body).2.2 = 0) : (1 ≤ n ∧ n ≤ 7) ∧ body.length ≤ 400 ∧ ∀ (j : Nat) (g : Seg), body[j]? = some g → ∃ (k : Nat) (r : TRow), (rowsI n)[k]? = some r ∧ g.1 = bs r.tag ∧ frV (bs r.form) g.2 = -1 := by
  unfold tcV at h
  split at h
  · simp at h
  · rename_i h4
    split at h
    · rename_i hn
      refine ⟨hn, by omega, fun j g hj => ?_⟩
      obtain ⟨k, r, g', k1, k2, k3⟩ := tc_in body _ 0 _ h j (Nat.zero_le _) (List.getElem?_eq_some_iff.1 hj).1
      rw [hj] at k2
      cases k2
      exact ⟨k, r, k1, k3⟩
    · simp at h
theorem tcV_tail {n : Int} {body : List Seg} (h : (tcV n body).2.2 = 0) : 1 ≤ body.length ∧ tcV n (body.drop 1) = (0, 0, 4) := by
  obtain ⟨hn, h4, _⟩ := tcV_each h
  obtain ⟨d, rs, hd, d1, d2, d3, d4⟩ := rows_doc hn
  unfold tcV at h
  rw [if_neg (by omega), if_pos hn, hd] at h
  unfold tc at h
  split at h
  · simp at h
  · rename_i hk
    split at h
    · simp at h
    · rename_i hl
      rw [d2, List.drop_zero] at hl
      rw [List.drop_zero] at hk h
      have h1 : 1 ≤ (tk d body 0).1 := by omega
      have hle := (tk_le d body 0).2.1
      have hlen : 1 ≤ body.length := by omega
      have hc1 : (tk d body 0).1 = 1 := by
        cases body with
        | nil => simp at hlen
        | cons g l =>
          unfold tk at h1 hk ⊢
          split at h1
          · simp at h1
          · rename_i q1
            rw [if_neg q1] at hk ⊢
            split at h1
            · simp at h1
            · rename_i q2
              rw [if_neg q2]
              cases l with
              | nil => rfl
              | cons x l =>
                unfold tk
                rw [if_pos (.inl (by rw [d3]; rfl))]
      rw [hc1, Nat.zero_add] at h
      refine ⟨hlen, ?_⟩
      unfold tcV
      rw [if_neg (by rw [List.length_drop]; omega), if_pos hn, hd]
      have ht : tk d (body.drop 1) 0 = (0, -1) := by
        cases hb : body.drop 1 with
        | nil => rfl
        | cons x l =>
          have hx : body[1]? = some x := by
            have := congrArg (·[0]?) hb
            simpa [List.getElem?_drop] using this
          obtain ⟨k, r, g, k1, k2, k3, _⟩ := tc_in body rs 1 _ h 1 (Nat.le_refl _) (List.getElem?_eq_some_iff.1 hx).1
          rw [hx] at k2
          cases k2
          have hne : x.1 ≠ bs d.tag := fun e => d4 r (List.mem_of_getElem? k1) ((bs_inj (k3.symm.trans e)).trans d1)
          unfold tk
          rw [if_pos (.inr hne)]
      unfold tc
      rw [List.drop_zero, ht, if_neg (by decide), if_pos (by rw [d2]; decide)]
      rfl
end Go.Proofs.YtphgheojfnlgjaaDoor
namespace Go.Proofs.YtphgheojfnlgjaaDoor
open Go.ChangeShapes Go.WideShapes Go.ChangeAt Go.RowKit
theorem iface_of_trod {P : Program} {w : World} {sp : Nat → Bool} {fuel : Nat} {t : TypeId} {cs : List Value} {ms : Array (String × TypeId)} {x : DataW Unit × List MemPlace} (ht : P.underlying t = some (.interface ms))
    (h : DataW.trod (fun _ => ()) P w 0 sp false fuel t cs = some x) : ∃ ev, cs = [ev] ∧ (ev = .nilIface ∨ ∃ te pe, ev = .iface te pe) := by
  cases fuel with
  | zero => simp [DataW.trod] at h
  | succ n =>
    unfold DataW.trod at h
    rw [ht] at h
    split at h <;> simp_all
theorem err_at {n : String} {d : DataW Unit} {r : List (String × DataW Unit)} {W : World} {g : Nat} (h : laidMet Tryd.prog ((n, d) :: r) W) (hg : Tryd.prog.globalNamed n = some g) (ht : (Tryd.prog.globals[g]?).map (·.type) = some 91) : ErrAt W g := by
  obtain ⟨ps, ⟨g0, t0, cs0, f0, p0, q0, hg0, ht0, hv0, hd0, _, _⟩, _, _⟩ := h
  obtain rfl := Option.some.inj (hg.symm.trans hg0)
  obtain rfl := Option.some.inj (ht.symm.trans ht0)
  obtain ⟨ev, e, hev⟩ := iface_of_trod Tryd.underlying91 hd0
  refine ⟨ev, ?_, hev⟩
  have := World.var?_cell hg0 hv0 0
  rw [this, ← Array.getElem?_toList, e]
  rfl
theorem gSyn : Tryd.prog.globalNamed "strconv.ErrSyntax" = some 4 := by kernel_rfl
theorem gRng : Tryd.prog.globalNamed "strconv.ErrRange" = some 5 := by kernel_rfl
theorem tSyn : (Tryd.prog.globals[4]?).map (·.type) = some 91 := by kernel_rfl
theorem tRng : (Tryd.prog.globals[5]?).map (·.type) = some 91 := by kernel_rfl
end Go.Proofs.YtphgheojfnlgjaaDoor
namespace Go.Proofs.YtphgheojfnlgjaaDoor
open Go.ChangeShapes Go.WideShapes Go.ChangeAt Go.RowKit
theorem tab_at {r : List (String × DataW Unit)} {W : World} (h : laidMet Tryd.prog (("loop.example/g00096/impl.tables", Rows.laid_loop_example_g00096_impl_tables) :: r) W) : TablesAt W := by
  obtain ⟨ps, ⟨g0, t0, cs0, f0, p0, q0, hg0, ht0, hv0, hd0, _, _⟩, _, _⟩ := h
  obtain rfl := Option.some.inj (gTab.symm.trans hg0)
  obtain rfl := Option.some.inj (tTab.symm.trans ht0)
  rw [laid_is] at hd0
  obtain ⟨xs, m, rfl, hx, hlen, hn, hel⟩ := DataW.trod_array Tryd.underlying47 hd0
  rw [cTab] at hlen
  rw [cKind] at hel
  simp only [Prod.mk.injEq, DataW.agg.injEq] at hx
  have hx1 := hx.1
  intro k h1 h7
  have hk : (xs.map (·.1))[k]? = some (kindD k) := by
    rw [← hx1]
    obtain rfl | rfl | rfl | rfl | rfl | rfl | rfl : k = 1 ∨ k = 2 ∨ k = 3 ∨ k = 4 ∨ k = 5 ∨ k = 6 ∨ k = 7 := by omega
    all_goals rfl
  rw [List.getElem?_map] at hk
  obtain ⟨⟨d, p⟩, hxk, hd⟩ := Option.map_eq_some_iff.1 hk
  simp only at hd
  subst hd
  have h2 := hel k (by omega)
  rw [hxk] at h2
  have hne : rowsK k ≠ [] := by
    obtain rfl | rfl | rfl | rfl | rfl | rfl | rfl : k = 1 ∨ k = 2 ∨ k = 3 ∨ k = 4 ∨ k = 5 ∨ k = 6 ∨ k = 7 := by omega
    all_goals (intro e; cases e)
  obtain ⟨b, off, cap, hcs, hc1, hc2, hb, hR⟩ := kind_at hne h2
  have c0 := World.var?_cell hg0 hv0 (k * 2)
  have c1 := World.var?_cell hg0 hv0 (k * 2 + 1)
  have g0 : cs0.toList[k * 2]? = some (.string (bs (nameK k))) := by
    have := congrArg (·[0]?) hcs
    simpa [List.getElem?_take, List.getElem?_drop] using this
  have g1 : cs0.toList[k * 2 + 1]? = some (.slice (some ⟨b, off, none⟩) (rowsK k).length cap) := by
    have := congrArg (·[1]?) hcs
    simpa [List.getElem?_take, List.getElem?_drop] using this
  simp only [Array.getElem?_toList] at g0 g1
  exact ⟨c0.trans g0, b, off, cap, c1.trans g1, hc1, hc2, hb, hR⟩
end Go.Proofs.YtphgheojfnlgjaaDoor
namespace Go.Proofs.YtphgheojfnlgjaaDoor
open Go.ChangeShapes Go.WideShapes Go.ChangeAt Go.RowKit Go.Shelf
set_option maxHeartbeats 2000000 in
theorem drawTc_any (a : Option Addr) (len cap : Nat) (zs : List Int) (w : World) (hl : len ≤ 1048576) (hr : BytesAt w a len zs) :
    Calls Tryd.prog 4 #[.slice a len cap] w fun e w' => ∃ (n : Int) (v : Value) (ps : List (Value × List Value)) (gs : List Seg), e = .returned (.tuple #[.int .i64 n, v]) ∧ gs.length ≤ 64 ∧ OwnWL w.heap.size w' v ps gs ∧ BdGs gs ∧ Below w.heap.size w w' := by
  have HR : Hid (BytesAt w a len zs) := hr
  clear hr
  go_enter Tryd.func4, Tryd.ntmps4
  go_wp2_with fail
  refine (source_any a len cap zs w hl HR.out).mono ?_
  rintro e w1 ⟨rfl, hs1, hb1⟩
  have H1 : Hid (IsSrc w.heap.size w1 ∧ Below w.heap.size w w1) := ⟨hs1, hb1⟩
  clear hs1 hb1
  go_wp2_with fail
  refine (n_any w.heap.size 7 _ (by omega) (by omega) H1.out.1).mono ?_
  rintro e w2 ⟨q2, rfl, hq20, hq21, hs2, hk2⟩
  have H2 : Hid (IsSrc w.heap.size w2 ∧ Below w.heap.size w w2) := ⟨hs2, H1.out.2.trans (hk2.below (Nat.le_refl _) H1.out.2.size)⟩
  clear hs2 hk2 H1
  go_wp2_with fail
  refine (l04Body_any w.heap.size (1 + q2) _ H2.out.1).mono ?_
  rintro e w3 ⟨v, ps, gs, rfl, hgl, hO, hB, hs3, hk3⟩
  have H3 : Hid (IsSrc w.heap.size w3 ∧ Below w.heap.size w w3 ∧ OwnWL w2.heap.size w3 v ps gs ∧ BdGs gs ∧ w.heap.size < w2.heap.size) := ⟨hs3, H2.out.2.trans (hk3.below (Nat.le_refl _) H2.out.2.size), hO, hB, H2.out.1.lt⟩
  clear hO hB hs3 hk3 H2
  go_wp2_with fail
  refine (one_any w.heap.size 15 _ (by omega) (by omega) H3.out.1).mono ?_
  rintro e w4 ⟨b4, rfl, hs4, hk4⟩
  have H4 : Hid (IsSrc w.heap.size w4 ∧ Below w.heap.size w w4 ∧ OwnWL w2.heap.size w4 v ps gs ∧ BdGs gs ∧ w.heap.size < w2.heap.size) := ⟨hs4, H3.out.2.1.trans (hk4.below (Nat.le_refl _) H3.out.2.1.size), H3.out.2.2.1.keep hk4 H3.out.2.2.2.2, H3.out.2.2.2⟩
  clear hs4 hk4 H3
  cases b4
  · go_wp2
    exact bodyPost_ret (v := .tuple #[.int .i64 (1 + q2), v]) (by simp [results, Tryd.results4, go_sem]) rfl ⟨_, v, ps, gs, rfl, hgl, H4.out.2.2.1.mono (by have := H4.out.2.2.2.2; omega), H4.out.2.2.2.1, H4.out.2.1⟩
  · go_wp2_with fail
    refine (n_any w.heap.size 10 _ (by omega) (by omega) H4.out.1).mono ?_
    rintro e w5 ⟨q5, rfl, hq50, hq51, hs5, hk5⟩
    have H5 : Hid (Below w.heap.size w w5 ∧ OwnWL w2.heap.size w5 v ps gs ∧ BdGs gs ∧ w.heap.size < w2.heap.size) := ⟨H4.out.2.1.trans (hk5.below (Nat.le_refl _) H4.out.2.1.size), H4.out.2.2.1.keep hk5 H4.out.2.2.2.2, H4.out.2.2.2⟩
    clear hs5 hk5
    go_wp2
    exact bodyPost_ret (v := .tuple #[.int .i64 (q5 - 1), v]) (by simp [results, Tryd.results4, go_sem]) rfl ⟨_, v, ps, gs, rfl, hgl, H5.out.2.1.mono (by have := H5.out.2.2.2; omega), H5.out.2.2.1, H5.out.1⟩
end Go.Proofs.YtphgheojfnlgjaaDoor
namespace Go.Proofs.YtphgheojfnlgjaaDoor
open Go.ChangeShapes Go.WideShapes Go.ChangeAt Go.RowKit Go.Joins
open Go.ChangeMaps (open_string shut_string)
set_option linter.unusedVariables false
namespace fnTables
def IsRow (k : IntKind) (w : World) (a : Option Addr) (len cap : Nat) (zs : List Int) : Prop :=
  (a = none ∧ len = 0 ∧ cap = 0 ∧ zs = []) ∨
  ∃ x, a = some x ∧ len ≤ cap ∧ cap ≤ maxLen ∧ zs.length = cap ∧ (∀ i, i < zs.length → w.cell? (x.add i) = some (.int k (zs.getD i 0))) ∧ ∀ n ∈ zs, (Lit.int k n).wf = true
theorem IsRow.bytesAt {w : World} {a : Option Addr} {len cap : Nat} {zs : List Int} (h : IsRow .u8 w a len cap zs) : BytesAt w a len zs := by
  intro g
  rcases h with ⟨_, rfl, _, _⟩ | ⟨x, rfl, hl, _, hz, hc, _⟩
  · omega
  · obtain ⟨b, off, spot⟩ := x
    have h0 := hc 0 (by omega)
    have hspot : spot = none := by simpa [Addr.add] using World.cell?_spot h0
    subst hspot
    refine ⟨b, off, rfl, fun i hi => ?_⟩
    have hplain : (⟨b, off, none⟩ : Addr).add i = ⟨b, off + i, none⟩ := by unfold Addr.add; split <;> simp_all
    have := hc i (by omega)
    rw [hplain] at this
    simpa [List.getD] using this
theorem IsRow.len_le {w : World} {a : Option Addr} {len cap : Nat} {zs : List Int} (h : IsRow .u8 w a len cap zs) : len ≤ 9223372036854775807 := by
  rcases h with ⟨_, rfl, _, _⟩ | ⟨x, rfl, hl, hm, hz, hc, _⟩
  · omega
  · unfold maxLen at hm
    omega
theorem errs {W : World} (hL : laidMetH Tryd.prog Rows.fnTablesRow.laid W) : ErrsAt W ∧ TablesAt W := by
  rw [MakeChecks.laidMetH_plain _ _ _ (by kernel_rfl)] at hL
  have h4 := laidMet.tail (laidMet.tail (laidMet.tail (laidMet.tail hL)))
  exact ⟨⟨err_at (laidMet.tail h4) gSyn tSyn, err_at h4 gRng tRng⟩, tab_at (laidMet.tail (laidMet.tail h4))⟩
set_option maxRecDepth 100000 in
theorem tcUnder : Tryd.prog.underlying 27 = some (.struct (Tryd.prog.fieldsOf 27)) := by kernel_rfl
set_option maxRecDepth 100000 in
theorem run_neq_tc (a b c : Int) (w : World) : (binOp .neq 27 (.agg #[.int .i64 a, .int .i64 b, .int .i64 c]) (.agg #[.int .i64 a, .int .i64 b, .int .i64 c])).run Tryd.prog w = .ok (.bool false) w := by
  have hF : Tryd.prog.fieldsOf 27 = (match Tryd.prog.underlying 27 with | some (.struct fs) => fs | _ => #[]) := rfl
  rw [Tryd.underlying27] at hF
  rw [run_neq_struct, run_equalIn_struct _ _ _ _ _ tcUnder (by kernel_rfl), hF]
  simp [go_sem, Op.eqFields]
theorem below_drewZ {N : Nat} {w W : World} (h : Below N w W) (k : Nat) : Below N w (W.drewN k) := ⟨h.os, h.tape, h.output, h.size, h.block⟩
/-- A copy's row reads. -/
theorem copy_wl {N M : Nat} {W W' : World} {v u : Value} {ps : List (Value × List Value)} {gs : List Seg} (h : OwnWL N W v ps gs) (hb : Below W.heap.size W W') (hr : W'.ownsRow M 36 2 u gs.length (cellsL gs ps)) (hM : N ≤ M) : OwnWL N W' u ps gs :=
  ⟨h.len, rowz_mono hr hM, fun i p g hp hg => (h.segs i p g hp hg).below hb⟩
theorem wl_cap {N : Nat} {W : World} {v : Value} {ps : List (Value × List Value)} {gs : List Seg} (h : OwnWL N W v ps gs) : ∃ A C, v = .slice A gs.length C ∧ gs.length ≤ C ∧ C ≤ maxLen := by
  rcases h.row.2 with ⟨rfl, h0⟩ | ⟨g, cap, cur, rfl, _, _, h1, h2, _⟩
  · exact ⟨none, 0, by rw [h0], by omega, Nat.zero_le _⟩
  · exact ⟨_, _, rfl, h1, h2⟩
theorem wl_one {N : Nat} {W : World} {v : Value} {ps : List (Value × List Value)} {gs : List Seg} (h : OwnWL N W v ps gs) : ∀ p ∈ ps, ∃ A N C, p.1 = .slice A N C := fun p hp => by
  obtain ⟨m, hm⟩ := List.mem_iff_getElem?.1 hp
  exact row_slice (h.segs m p _ hm (List.getElem?_eq_getElem (by rw [← h.len]; exact (List.getElem?_eq_some_iff.1 hm).1))).row
theorem copy_drop {N M : Nat} {W W' : World} {v u : Value} {ps : List (Value × List Value)} {gs : List Seg} (h : OwnWL N W v ps gs) (hb : Below W.heap.size W W') (hr : W'.ownsRow M 36 2 u (gs.length - 1) (cellsL (gs.drop 1) (ps.drop 1))) (hM : N ≤ M) : OwnWL N W' u (ps.drop 1) (gs.drop 1) :=
  ⟨by rw [List.length_drop, List.length_drop, h.len], by rw [List.length_drop]; exact rowz_mono hr hM, fun i p g hp hg => by
    rw [List.getElem?_drop] at hp hg
    exact (h.segs _ p g hp hg).below hb⟩
set_option maxRecDepth 20000 in
set_option maxHeartbeats 8000000 in
theorem walk (a0 : Option Addr) (len0 cap0 : Nat) (z0 : List Int) (w : World) (w0 : IsRow .u8 w a0 len0 cap0 z0) (hL : laidMetH Tryd.prog Rows.fnTablesRow.laid w) :
    Calls Tryd.prog 3 #[.slice a0 len0 cap0] w fun e w' => e = .returned (.bool true) ∧ Below w.heap.size w w' := by
  have hl0 := w0.len_le
  have HE : Hid (ErrsAt w ∧ TablesAt w) := errs hL
  have HR : Hid (BytesAt w a0 len0 z0) := w0.bytesAt
  clear w0 hL
  by_cases hg : 1048576 < len0
  · have hg' : (1048576 : Int) < (len0 : Int) := by omega
    clear HR
    go_enter Tryd.func3, Tryd.ntmps3
    go_wp2
    go_ret
    exact ⟨rfl, Below.refl _ _⟩
  have hg' : (len0 : Int) ≤ 1048576 := by omega
  go_enter Tryd.func3, Tryd.ntmps3
  go_wp2_with fail
  refine (drawTc_any a0 len0 cap0 z0 w (by omega) HR.out).mono ?_
  rintro e w2 ⟨n, v, ps, gs, rfl, hgl, hO, hB, hb2⟩
  obtain ⟨Av, Cv, hv⟩ := sliceZ hO.row
  subst hv
  have HBG : Hid (BdG 1048576 gs ∧ BdGs gs) := ⟨bdGs_bdG hB (by omega), hB⟩
  have H2 : Hid (OwnWL w.heap.size w2 (.slice Av gs.length Cv) ps gs ∧ Below w.heap.size w w2) := ⟨hO, hb2⟩
  clear hO hB hb2
  go_wp2_with fail
  refine (tableCheck_spec n _ gs w2 (H2.out.1.rowG HBG.out.2 (by omega)) HBG.out.1).mono ?_
  rintro e w3 ⟨rfl, hb3⟩
  obtain ⟨⟨ta, tb, tc⟩, ht⟩ : ∃ t, tcV n gs = t := ⟨_, rfl⟩
  have HT : Hid (tcV n gs = (ta, tb, tc)) := ht
  rw [ht]
  dsimp only [tcVal]
  have hbx : Below w3.heap.size w3 (w3.alloc (.cells #[.int .i64 ta, .int .i64 tb, .int .i64 tc] 27)) := (Below.refl _ _).alloc (Nat.le_refl _) _
  have H4 : Hid (OwnWL w.heap.size (w3.alloc (.cells #[.int .i64 ta, .int .i64 tb, .int .i64 tc] 27)) (.slice Av gs.length Cv) ps gs ∧ Below w.heap.size w (w3.alloc (.cells #[.int .i64 ta, .int .i64 tb, .int .i64 tc] 27)) ∧ (w3.alloc (.cells #[.int .i64 ta, .int .i64 tb, .int .i64 tc] 27)).heap[w3.heap.size]? = some (.cells #[.int .i64 ta, .int .i64 tb, .int .i64 tc] 27)) := ⟨(H2.out.1.below hb3).below hbx, (H2.out.2.trans (hb3.mono H2.out.2.size)).trans (hbx.mono (Nat.le_trans H2.out.2.size hb3.size)), World.alloc_heap_new w3 _⟩
  clear ht hb3 hbx H2
  go_upto_region 5 with fail
  generalize hX : w3.heap.size = X at *
  generalize (w3.alloc (.cells #[.int .i64 ta, .int .i64 tb, .int .i64 tc] 27)) = W4 at *
  obtain ⟨j0, hj0i, hi0, hi1, hi2⟩ := info_parts infoSg
  go_cut [6] from 23 to 27 (fun pv wx => ∃ P, pv = .pointer (some ⟨P, 0, none⟩) ∧ wx.heap[P]? = some (.cells #[.int .i64 ta, .int .i64 tb, .int .i64 tc] 27) ∧ Below W4.heap.size W4 wx)
  case first =>
    have tok1 : True := trivial
    have hEm : Below W4.heap.size W4 (W4.alloc (.cells #[] 36)) := (Below.refl _ _).alloc (Nat.le_refl _) _
    have HEm : Hid (Below W4.heap.size W4 (W4.alloc (.cells #[] 36)) ∧ (W4.alloc (.cells #[] 36)).ownsRow W4.heap.size 36 2 (.slice (some ⟨W4.heap.size, 0, none⟩) 0 0) 0 []) := ⟨hEm, emptyZ (World.alloc_heap_new W4 _) (Nat.le_refl _)⟩
    clear hEm
    rcases H4.out.1.row.2 with ⟨e1, h0⟩ | ⟨g, cap1, cur1, e1, _⟩
    · have hgs : gs = [] := List.eq_nil_of_length_eq_zero h0
      subst hgs
      simp only [List.length_nil, Value.slice.injEq] at e1
      obtain ⟨rfl, _, rfl⟩ := e1
      go_wp2_with (at_builtin; have _t := tok1; refine wpList_append_own_none rfl _ _ 23 rfl W4.heap.size 36 j0 2 Tryd.underlying23 hj0i _ 0 [] rfl HEm.out.2 rfl ?_; clear tok1)
      have hT5 : ErrsAt (W4.alloc (.cells #[] 36)) ∧ TablesAt (W4.alloc (.cells #[] 36)) := ⟨HE.out.1.below (H4.out.2.1.trans (HEm.out.1.mono H4.out.2.1.size)), HE.out.2.below (H4.out.2.1.trans (HEm.out.1.mono H4.out.2.1.size)) rfl⟩
      have hW5 : OwnWL w.heap.size (W4.alloc (.cells #[] 36)) (.slice (some ⟨W4.heap.size, 0, none⟩) 0 0) ps [] := copy_wl H4.out.1 HEm.out.1 (by have := HEm.out.2; simpa [cellsL] using this) H4.out.2.1.size
      refine (tableCheck_impl n _ [] _ (hW5.rowG HBG.out.2 (by simp)) HBG.out.1 (wl_cap hW5) hT5.2 hT5.1).mono ?_
      rintro e w6 ⟨rfl, hb6⟩
      rw [HT.out]
      dsimp only [tcVal]
      have H6 : Hid (Below W4.heap.size W4 w6) := HEm.out.1.trans (hb6.mono HEm.out.1.size)
      clear hT5 hW5 hb6
      go_wp2_with fail
      go_meet
      exact ⟨w6.heap.size, rfl, World.alloc_heap_new w6 _, H6.out.alloc H6.out.size _⟩
    · simp only [Value.slice.injEq] at e1
      obtain ⟨rfl, _, rfl⟩ := e1
      have HQ : Hid ((cellsL gs ps).length = gs.length * 2 ∧ (∀ u ∈ cellsL gs ps, u.oneCell' = true) ∧ ∀ j u, (cellsL gs ps)[j]? = some u → (W4.alloc (.cells #[] 36)).cell? ((⟨g, 0, none⟩ : Addr).add j) = some u) := ⟨cellsL_len H4.out.1.len, cellsZ_one (wl_one H4.out.1), fun j u hu => (H4.out.1.below HEm.out.1).row.cells (g := g) rfl j u hu⟩
      go_wp2_with (at_builtin; have _t := tok1; refine wpList_append_own _ rfl _ _ 23 rfl W4.heap.size 36 j0 (.agg #[.string ⟨#[]⟩, .slice none 0 0]) 2 40 Tryd.underlying23 hj0i hi0 hi1 hi2 rfl (by decide) _ 0 [] rfl HEm.out.2 ⟨g, 0, none⟩ gs.length _ (cellsL gs ps) rfl HQ.out.1 HQ.out.2.2 HQ.out.2.1 (by unfold maxLen; omega) (by omega) (by simp) ?_; intro u' w5 hown' hgrow _; obtain ⟨A5, C5, hu5⟩ := sliceZ hown'; rw [Nat.zero_add] at hu5; subst hu5; have b5 : Below W4.heap.size W4 w5 := ⟨hgrow.os.trans HEm.out.1.os, hgrow.tape.trans HEm.out.1.tape, hgrow.output.trans HEm.out.1.output, Nat.le_trans HEm.out.1.size hgrow.size, fun k hk => (hgrow.block k (Nat.lt_of_lt_of_le hk HEm.out.1.size) (fun e => by have e2 := Option.some.inj (show some k = some W4.heap.size from e); omega)).trans (HEm.out.1.block k hk)⟩; have H5 : Hid (OwnWL w.heap.size w5 (.slice A5 gs.length C5) ps gs ∧ Below W4.heap.size W4 w5) := ⟨copy_wl H4.out.1 b5 (by have := hown'; simpa using this) H4.out.2.1.size, b5⟩; clear tok1 hown' hgrow b5)
      have hT5 : ErrsAt w5 ∧ TablesAt w5 := ⟨HE.out.1.below (H4.out.2.1.trans (H5.out.2.mono H4.out.2.1.size)), HE.out.2.below (H4.out.2.1.trans (H5.out.2.mono H4.out.2.1.size)) rfl⟩
      refine (tableCheck_impl n _ gs _ (H5.out.1.rowG HBG.out.2 (by omega)) HBG.out.1 (wl_cap H5.out.1) hT5.2 hT5.1).mono ?_
      rintro e w6 ⟨rfl, hb6⟩
      rw [HT.out]
      dsimp only [tcVal]
      have H6 : Hid (Below W4.heap.size W4 w6) := H5.out.2.trans (hb6.mono H5.out.2.size)
      clear hT5 hb6
      go_wp2_with fail
      go_meet
      exact ⟨w6.heap.size, rfl, World.alloc_heap_new w6 _, H6.out.alloc H6.out.size _⟩
  case rest =>
    obtain ⟨P, hpv, hP, hbx⟩ := hcut
    subst hpv
    have hX7 := (hbx.block X (Array.getElem?_eq_some_iff.1 H4.out.2.2).1).trans H4.out.2.2
    have H7 : Hid (OwnWL w.heap.size wc (.slice Av gs.length Cv) ps gs ∧ Below w.heap.size w wc) := ⟨H4.out.1.below hbx, H4.out.2.1.trans (hbx.mono H4.out.2.1.size)⟩
    have x0 := cell_of_row _ X 0 _ _ _ hX7
    have x1 := cell_of_row _ X 1 _ _ _ hX7
    have x2 := cell_of_row _ X 2 _ _ _ hX7
    have p0 := cell_of_row _ P 0 _ _ _ hP
    have p1 := cell_of_row _ P 1 _ _ _ hP
    have p2 := cell_of_row _ P 2 _ _ _ hP
    have hne := fun W => run_neq_tc ta tb tc W
    clear hbx hX7 hP H4
    by_cases htc : ¬ tc = 0
    · have htc' : (tc == 0) = false := by rw [beq_eq_false_iff_ne]; exact htc
      go_wp2
      go_ret
      exact ⟨rfl, H7.out.2⟩
    obtain rfl : tc = 0 := Classical.not_not.1 htc
    clear htc
    obtain ⟨hn7, hb400, heach⟩ := tcV_each (n := n) (body := gs) (by rw [HT.out])
    obtain ⟨hl1, htail⟩ := tcV_tail (n := n) (body := gs) (by rw [HT.out])
    have HEa : Hid ((1 ≤ n ∧ n ≤ 7) ∧ (∀ (j : Nat) (g : Seg), gs[j]? = some g → ∃ (k : Nat) (r : TRow), (rowsI n)[k]? = some r ∧ g.1 = bs r.tag ∧ frV (bs r.form) g.2 = -1) ∧ tcV n (gs.drop 1) = (0, 0, 4)) := ⟨hn7, heach, htail⟩
    clear hn7 heach htail hb400
    obtain ⟨g, hAv⟩ : ∃ g, Av = some ⟨g, 0, none⟩ := by
      rcases H7.out.1.row.2 with ⟨e1, h1⟩ | ⟨g1, cap1, cur1, e1, _⟩
      · omega
      · simp only [Value.slice.injEq] at e1
        exact ⟨g1, e1.1⟩
    subst hAv
    go_wp2_with fail
    have hT7 := HE.out.2.below H7.out.2 rfl
    refine (tableOf_impl n _ hT7).mono ?_
    rintro e w8 ⟨rv, rfl, hO8, hb8⟩
    obtain ⟨Ar, cR, hrv⟩ := sliceZ hO8
    subst hrv
    have hr1 : 1 ≤ (rowsI n).length := by
      obtain ⟨x, hx⟩ : ∃ x, gs[0]? = some x := ⟨_, List.getElem?_eq_getElem (by omega)⟩
      obtain ⟨k, r, hr, _⟩ := HEa.out.2.1 0 x hx
      have := (List.getElem?_eq_some_iff.1 hr).1
      omega
    have hr3 := rowsI_len n
    obtain ⟨gR, hAr⟩ : ∃ gR, Ar = some ⟨gR, 0, none⟩ := by
      rcases hO8.2 with ⟨e1, h0⟩ | ⟨g1, cap1, cur1, e1, _⟩
      · omega
      · simp only [Value.slice.injEq] at e1
        exact ⟨g1, e1.1⟩
    subst hAr
    have H8 : Hid (OwnWL w.heap.size w8 (.slice (some ⟨g, 0, none⟩) gs.length Cv) ps gs ∧ OwnT wc.heap.size w8 (.slice (some ⟨gR, 0, none⟩) (rowsI n).length cR) (rowsI n) ∧ Below w.heap.size w w8) := ⟨H7.out.1.below hb8, hO8, H7.out.2.trans (hb8.mono H7.out.2.size)⟩
    have hrI : ¬ ((rowsI n).length : Int) = 0 := by omega
    have hrI' : (((rowsI n).length : Int) == 0) = false := by rw [beq_eq_false_iff_ne]; exact hrI
    clear hT7 hO8 hb8 H7 x0 x1 x2 p0 p1 p2 hne
    go_wp2_with fail
    have hT8 := HE.out.2.below H8.out.2.2 rfl
    refine (kindName_impl n _ hT8).mono ?_
    rintro e w8 ⟨rfl, rfl⟩
    obtain ⟨kn, hkn, hkn1⟩ : ∃ kn, kindNm n = kn ∧ kn.toList.isEmpty = false := ⟨_, rfl, by
      obtain ⟨h1, h2⟩ := HEa.out.1
      obtain rfl | rfl | rfl | rfl | rfl | rfl | rfl : n = 1 ∨ n = 2 ∨ n = 3 ∨ n = 4 ∨ n = 5 ∨ n = 6 ∨ n = 7 := by omega
      all_goals first | rfl | decide +kernel⟩
    rw [hkn]
    clear hkn hT8
    go_wp2_with fail
    go_loopw [8, 9, 10] (fun c _ _ wr => ∃ i : Nat, c = .int .i64 (i : Int) ∧ i ≤ gs.length ∧ Below w8.heap.size w8 wr) (fun c _ _ _ => gs.length - (intOf c).toNat)
    case atStart => exact ⟨0, rfl, by omega, Below.refl _ _⟩
    case round =>
      obtain ⟨i, rfl, hi, hbr⟩ := hrel
      have HB : Hid (Below w8.heap.size w8 wr) := hbr
      clear hbr
      by_cases hig : i < gs.length
      · have hig' : (i : Int) < (gs.length : Int) := by omega
        obtain ⟨x, hx⟩ : ∃ x, gs[i]? = some x := ⟨_, List.getElem?_eq_getElem hig⟩
        obtain ⟨p, hp⟩ : ∃ p, ps[i]? = some p := ⟨_, List.getElem?_eq_getElem (by rw [H8.out.1.len]; exact hig)⟩
        obtain ⟨k0, r0, hr0, htag, hfr⟩ := HEa.out.2.1 i x hx
        obtain ⟨Ax, Cx, hp1⟩ := sliceZ (H8.out.1.segs i p x hp hx).row
        have hk0 := (List.getElem?_eq_some_iff.1 hr0).1
        have HX0 : Hid (gs[i]? = some x ∧ ps[i]? = some p ∧ p.1 = .slice Ax x.2.length Cx ∧ (rowsI n)[k0]? = some r0 ∧ x.1 = bs r0.tag ∧ frV (bs r0.form) x.2 = -1) := ⟨hx, hp, hp1, hr0, htag, hfr⟩
        have HC : Hid (∀ W, Below w8.heap.size w8 W → W.cell? ⟨g, i * 2, none⟩ = some (.string x.1) ∧ W.cell? ⟨g, i * 2 + 1, none⟩ = some (.slice Ax x.2.length Cx) ∧ RowE W (.slice Ax x.2.length Cx) x.2 ∧ ErrsAt W ∧ TablesAt W) := fun W hW => by
          have hO := H8.out.1.below hW
          obtain ⟨k1, k2⟩ := cellsL_get HX0.out.1 HX0.out.2.1
          have h1 := hO.row.cells (g := g) rfl _ _ k1
          have h2 := hO.row.cells (g := g) rfl _ _ k2
          have e1 : ∀ j, (⟨g, 0, none⟩ : Addr).add j = ⟨g, 0 + j, none⟩ := fun j => by unfold Addr.add; split <;> simp_all
          rw [e1, Nat.zero_add] at h1 h2
          obtain ⟨b1, b2, b3⟩ := HBG.out.2 x (List.mem_of_getElem? HX0.out.1)
          have h3 := (hO.segs i p x HX0.out.2.1 HX0.out.1).rowE b3 (by omega)
          rw [HX0.out.2.2.1] at h2 h3
          have hw := H8.out.2.2.trans (hW.mono H8.out.2.2.size)
          exact ⟨h1, h2, h3, HE.out.1.below hw, HE.out.2.below hw rfl⟩
        clear hx hp hp1 hr0 htag hfr
        go_wp2_with fail
        go_loopw [9, 10] (fun f c wr => ∃ (b : Bool) (k : Nat), f = .bool b ∧ c = .int .i64 (k : Int) ∧ k ≤ (rowsI n).length ∧ (k0 < k → b = true) ∧ Below w8.heap.size w8 wr) (fun _ c _ => (rowsI n).length - (intOf c).toNat)
        case atStart => exact ⟨false, 0, rfl, rfl, by omega, by omega, HB.out⟩
        case round =>
          clear HB
          obtain ⟨fb, k, rfl, rfl, hk, hkb, hbr⟩ := hrel
          have HB : Hid (Below w8.heap.size w8 wr) := hbr
          clear hbr
          by_cases hkr : k < (rowsI n).length
          · have hkr' : (k : Int) < ((rowsI n).length : Int) := by omega
            obtain ⟨r, hr⟩ : ∃ r, (rowsI n)[k]? = some r := ⟨_, List.getElem?_eq_getElem hkr⟩
            have Hr : Hid ((rowsI n)[k]? = some r) := hr
            have HRR : Hid (∀ W, Below w8.heap.size w8 W → W.cell? ⟨gR, k * 4, none⟩ = some (.string (bs r.tag)) ∧ W.cell? ⟨gR, k * 4 + 1, none⟩ = some (.int .i64 r.least) ∧ W.cell? ⟨gR, k * 4 + 2, none⟩ = some (.int .i64 r.most) ∧ W.cell? ⟨gR, k * 4 + 3, none⟩ = some (.string (bs r.form))) := fun W hW => rowsT_at (N := wc.heap.size) (L := (rowsI n).length) (cR := cR) (rs := rowsI n) (row_sameW H8.out.2.1 fun g _ h2 _ => hW.block g h2) Hr.out
            clear hr
            go_upto_region 20 with fail
            have hIff : Hid (k = k0 → bs r.tag = x.1 ∧ frV (bs r.form) x.2 = -1) := fun e => by
              have h1 := Hr.out
              rw [e, HX0.out.2.2.2.1] at h1
              cases h1
              exact ⟨HX0.out.2.2.2.2.1.symm, HX0.out.2.2.2.2.2⟩
            rcases Bool.eq_false_or_eq_true fb with hfb | hfb
            · subst hfb
              go_quiet (fail)
              go_wp2_with fail
              go_roundw
              case rel => exact ⟨true, k + 1, rfl, by go_num, by omega, fun _ => rfl, by first | exact HB.out | exact below_drewZ HB.out _ | exact (below_drewZ HB.out _).drew⟩
              case measure => simp [intOf]; omega
            · subst hfb
              have hnk : ¬ k0 < k := fun h => by have := hkb h; cases this
              obtain ⟨tR, htR⟩ : ∃ tR, bs r.tag = tR := ⟨_, rfl⟩
              obtain ⟨fv, hfv⟩ : ∃ fv, frV (bs r.form) x.2 = fv := ⟨_, rfl⟩
              by_cases hte : tR = x.1
              · have hte1 : (tR.toList == x.1.toList) = true := by rw [hte]; simp
                obtain ⟨fR, hfR⟩ : ∃ fR, bs r.form = fR := ⟨_, rfl⟩
                have HS4 : Hid (∀ W, Below w8.heap.size w8 W → W.cell? ⟨gR, k * 4, none⟩ = some (.string tR) ∧ W.cell? ⟨gR, k * 4 + 3, none⟩ = some (.string fR) ∧ W.cell? ⟨g, i * 2, none⟩ = some (.string x.1) ∧ W.cell? ⟨g, i * 2 + 1, none⟩ = some (.slice Ax x.2.length Cx)) := fun W hW => by
                  obtain ⟨q0, q1, q2, q3⟩ := HRR.out W hW
                  obtain ⟨c0, c1, _⟩ := HC.out W hW
                  rw [htR] at q0
                  rw [hfR] at q3
                  exact ⟨q0, q3, c0, c1⟩
                have QF : Hid (∀ W, Below w8.heap.size w8 W → Calls Tryd.prog 9 #[.string fR, .agg #[.string x.1, .slice Ax x.2.length Cx]] W fun e w' => e = .returned (.int .i64 fv) ∧ Below W.heap.size W w') := fun W hW => by
                  obtain ⟨c0, c1, c2, c3, c4⟩ := HC.out W hW
                  obtain ⟨b1, b2, b3⟩ := HBG.out.2 x (List.mem_of_getElem? HX0.out.1)
                  have hok := (rowsI_ok n r (List.mem_of_getElem? Hr.out)).2.2.2.2.1
                  have hz : fR.size ≤ 1048576 := by rw [← hfR]; exact Nat.le_trans hok (by decide)
                  refine (formRight_impl fR x.1 _ x.2 W hz c2 (bdE_of b3 b2) c3).mono ?_
                  rintro e w' ⟨fr, rfl, hfr, hb⟩
                  rw [frV_is hfr, ← hfR, hfv]
                  exact ⟨rfl, hb⟩
                have QT : Hid (∀ W, Below w8.heap.size w8 W → Calls Tryd.prog 10 #[.int .i64 n, .int .i64 (k : Int)] W fun e w' => e = .returned (.string tR) ∧ Below W.heap.size W w') := fun W hW => by
                  obtain ⟨c0, c1, c2, c3, c4⟩ := HC.out W hW
                  refine (tagOf_impl n (k : Int) W c4).mono ?_
                  rintro e w' ⟨rfl, hb⟩
                  rw [tagT_at Hr.out, htR]
                  exact ⟨rfl, hb⟩
                have HIf : Hid (k = k0 → fv = -1) := fun e => by rw [← hfv]; exact (hIff.out e).2
                obtain ⟨q0, q3, c0, c1⟩ := HS4.out wr HB.out
                have qd := HS4.out wr.drew HB.out.drew
                clear hIff hfv hfR htR hte
                by_cases hfm : fv = -1
                · subst hfm
                  refine wp_region_held_drew (S := (fun W => W.cell? ⟨gR, k * 4, none⟩ = some (.string tR) ∧ W.cell? ⟨gR, k * 4 + 3, none⟩ = some (.string fR) ∧ W.cell? ⟨g, i * 2, none⟩ = some (.string x.1) ∧ W.cell? ⟨g, i * 2 + 1, none⟩ = some (.slice Ax x.2.length Cx))) (by kernel_rfl) ?_ (fun hHeld => ?_)
                  · try dsimp only
                    exact qd
                  refine wpAnyH_take (i := 0) (oi := { dst := some 56, op := Op.move (Operand.tmp 9), type := 4, pos := "laws.go:1239", after := #[], guard := none }) (v := ?_) rfl (by kernel_rfl) (by kernel_rfl) (by kernel_rfl) (fun _ _ _ h => h) (Or.inl ⟨by rfl, ?_⟩) (by assumption) ?_
                  rotate_left 1
                  · intro w hSw
                    (try dsimp only at hSw)
                    go_simp
                    try with_reducible rfl
                  try simp only [Act.put, List.setIfInBounds_toArray, List.set_cons_zero, List.set_cons_succ]
                  refine wpAnyH_take (i := 1) (oi := { dst := some 57, op := Op.move (Operand.tmp 56), type := 4, pos := "laws.go:1239", after := #[{ on := 0, ground := Ground.data }], guard := none }) (v := ?_) rfl (by kernel_rfl) (by kernel_rfl) (by kernel_rfl) (fun _ _ _ h => h) (Or.inl ⟨by rfl, ?_⟩) (by assumption) ?_
                  rotate_left 1
                  · intro w hSw
                    (try dsimp only at hSw)
                    go_simp
                    try with_reducible rfl
                  try simp only [Act.put, List.setIfInBounds_toArray, List.set_cons_zero, List.set_cons_succ]
                  refine wpAnyH_take (i := 2) (oi := { dst := some 58, op := Op.move (Operand.tmp 7), type := 29, pos := "laws.go:1239", after := #[{ on := 1, ground := Ground.guard }], guard := some (1, false) }) (v := ?_) rfl (by kernel_rfl) (by kernel_rfl) (by kernel_rfl) (fun _ _ _ h => h) (Or.inl ⟨by rfl, ?_⟩) (by assumption) ?_
                  rotate_left 1
                  · intro w hSw
                    (try dsimp only at hSw)
                    go_simp
                    try with_reducible rfl
                  try simp only [Act.put, List.setIfInBounds_toArray, List.set_cons_zero, List.set_cons_succ]
                  refine wpAnyH_take (i := 3) (oi := { dst := some 59, op := Op.move (Operand.tmp 10), type := 3, pos := "laws.go:1239", after := #[{ on := 1, ground := Ground.guard }], guard := some (1, false) }) (v := ?_) rfl (by kernel_rfl) (by kernel_rfl) (by kernel_rfl) (fun _ _ _ h => h) (Or.inl ⟨by rfl, ?_⟩) (by assumption) ?_
                  rotate_left 1
                  · intro w hSw
                    (try dsimp only at hSw)
                    go_simp
                    try with_reducible rfl
                  try simp only [Act.put, List.setIfInBounds_toArray, List.set_cons_zero, List.set_cons_succ]
                  refine wpAnyH_take (i := 4) (oi := { dst := some 60, op := Op.indexAddr 29 (Operand.tmp 58) (Operand.tmp 59), type := 0, pos := "laws.go:1239", after := #[{ on := 2, ground := Ground.data }, { on := 3, ground := Ground.data }, { on := 1, ground := Ground.guard }], guard := some (1, false) }) (v := ?_) rfl (by kernel_rfl) (by kernel_rfl) (by kernel_rfl) (fun _ _ _ h => h) (Or.inl ⟨by rfl, ?_⟩) (by assumption) ?_
                  rotate_left 1
                  · intro w hSw
                    (try dsimp only at hSw)
                    go_simp
                    try with_reducible rfl
                  try simp only [Act.put, List.setIfInBounds_toArray, List.set_cons_zero, List.set_cons_succ]
                  refine wpAnyH_take (i := 5) (oi := { dst := some 61, op := Op.fieldAddr 33 (Operand.tmp 60) 0, type := 0, pos := "laws.go:1239", after := #[{ on := 4, ground := Ground.data }, { on := 1, ground := Ground.guard }], guard := some (1, false) }) (v := ?_) rfl (by kernel_rfl) (by kernel_rfl) (by kernel_rfl) (fun _ _ _ h => h) (Or.inl ⟨by rfl, ?_⟩) (by assumption) ?_
                  rotate_left 1
                  · intro w hSw
                    (try dsimp only at hSw)
                    go_simp
                    try with_reducible rfl
                  try simp only [Act.put, List.setIfInBounds_toArray, List.set_cons_zero, List.set_cons_succ]
                  refine wpAnyH_take (i := 6) (oi := { dst := some 62, op := Op.load 9 (Operand.tmp 61), type := 9, pos := "laws.go:1239", after := #[{ on := 5, ground := Ground.data }, { on := 1, ground := Ground.guard }], guard := some (1, false) }) (v := ?_) rfl (by kernel_rfl) (by kernel_rfl) (by kernel_rfl) (fun _ _ _ h => h) (Or.inl ⟨by rfl, ?_⟩) (by assumption) ?_
                  rotate_left 1
                  · intro w hSw
                    (try dsimp only at hSw)
                    go_simp
                    try with_reducible rfl
                  try simp only [Act.put, List.setIfInBounds_toArray, List.set_cons_zero, List.set_cons_succ]
                  refine wpAnyH_take (i := 7) (oi := { dst := some 63, op := Op.move (Operand.tmp 4), type := 23, pos := "laws.go:1239", after := #[{ on := 1, ground := Ground.guard }], guard := some (1, false) }) (v := ?_) rfl (by kernel_rfl) (by kernel_rfl) (by kernel_rfl) (fun _ _ _ h => h) (Or.inl ⟨by rfl, ?_⟩) (by assumption) ?_
                  rotate_left 1
                  · intro w hSw
                    (try dsimp only at hSw)
                    go_simp
                    try with_reducible rfl
                  try simp only [Act.put, List.setIfInBounds_toArray, List.set_cons_zero, List.set_cons_succ]
                  refine wpAnyH_take (i := 8) (oi := { dst := some 64, op := Op.move (Operand.tmp 8), type := 3, pos := "laws.go:1239", after := #[{ on := 1, ground := Ground.guard }], guard := some (1, false) }) (v := ?_) rfl (by kernel_rfl) (by kernel_rfl) (by kernel_rfl) (fun _ _ _ h => h) (Or.inl ⟨by rfl, ?_⟩) (by assumption) ?_
                  rotate_left 1
                  · intro w hSw
                    (try dsimp only at hSw)
                    go_simp
                    try with_reducible rfl
                  try simp only [Act.put, List.setIfInBounds_toArray, List.set_cons_zero, List.set_cons_succ]
                  refine wpAnyH_take (i := 9) (oi := { dst := some 65, op := Op.indexAddr 23 (Operand.tmp 63) (Operand.tmp 64), type := 0, pos := "laws.go:1239", after := #[{ on := 7, ground := Ground.data }, { on := 8, ground := Ground.data }, { on := 1, ground := Ground.guard }], guard := some (1, false) }) (v := ?_) rfl (by kernel_rfl) (by kernel_rfl) (by kernel_rfl) (fun _ _ _ h => h) (Or.inl ⟨by rfl, ?_⟩) (by assumption) ?_
                  rotate_left 1
                  · intro w hSw
                    (try dsimp only at hSw)
                    go_simp
                    try with_reducible rfl
                  try simp only [Act.put, List.setIfInBounds_toArray, List.set_cons_zero, List.set_cons_succ]
                  refine wpAnyH_take (i := 10) (oi := { dst := some 66, op := Op.fieldAddr 36 (Operand.tmp 65) 0, type := 0, pos := "laws.go:1239", after := #[{ on := 9, ground := Ground.data }, { on := 1, ground := Ground.guard }], guard := some (1, false) }) (v := ?_) rfl (by kernel_rfl) (by kernel_rfl) (by kernel_rfl) (fun _ _ _ h => h) (Or.inl ⟨by rfl, ?_⟩) (by assumption) ?_
                  rotate_left 1
                  · intro w hSw
                    (try dsimp only at hSw)
                    go_simp
                    try with_reducible rfl
                  try simp only [Act.put, List.setIfInBounds_toArray, List.set_cons_zero, List.set_cons_succ]
                  refine wpAnyH_take (i := 11) (oi := { dst := some 67, op := Op.load 9 (Operand.tmp 66), type := 9, pos := "laws.go:1239", after := #[{ on := 10, ground := Ground.data }, { on := 1, ground := Ground.guard }], guard := some (1, false) }) (v := ?_) rfl (by kernel_rfl) (by kernel_rfl) (by kernel_rfl) (fun _ _ _ h => h) (Or.inl ⟨by rfl, ?_⟩) (by assumption) ?_
                  rotate_left 1
                  · intro w hSw
                    (try dsimp only at hSw)
                    go_simp
                    try with_reducible rfl
                  try simp only [Act.put, List.setIfInBounds_toArray, List.set_cons_zero, List.set_cons_succ]
                  refine wpAnyH_take (i := 12) (oi := { dst := some 68, op := Op.binOp BinOp.eql 9 (Operand.tmp 62) (Operand.tmp 67) 9, type := 4, pos := "laws.go:1239", after := #[{ on := 6, ground := Ground.data }, { on := 11, ground := Ground.data }, { on := 1, ground := Ground.guard }], guard := some (1, false) }) (v := ?_) rfl (by kernel_rfl) (by kernel_rfl) (by kernel_rfl) (fun _ _ _ h => h) (Or.inl ⟨by rfl, ?_⟩) (by assumption) ?_
                  rotate_left 1
                  · intro w hSw
                    (try dsimp only at hSw)
                    go_simp
                    try with_reducible rfl
                  try simp only [Act.put, List.setIfInBounds_toArray, List.set_cons_zero, List.set_cons_succ]
                  refine wpAnyH_take (i := 13) (oi := { dst := some 69, op := Op.move (Operand.tmp 68), type := 4, pos := "laws.go:1239", after := #[{ on := 12, ground := Ground.data }, { on := 1, ground := Ground.chain }, { on := 1, ground := Ground.guard }], guard := some (1, false) }) (v := ?_) rfl (by kernel_rfl) (by kernel_rfl) (by kernel_rfl) (fun _ _ _ h => h) (Or.inl ⟨by rfl, ?_⟩) (by assumption) ?_
                  rotate_left 1
                  · intro w hSw
                    (try dsimp only at hSw)
                    go_simp
                    try with_reducible rfl
                  try simp only [Act.put, List.setIfInBounds_toArray, List.set_cons_zero, List.set_cons_succ]
                  refine wpAnyH_take (i := 14) (oi := { dst := some 70, op := Op.move (Operand.tmp 7), type := 29, pos := "laws.go:1239", after := #[{ on := 13, ground := Ground.guard }], guard := some (13, true) }) (v := ?_) rfl (by kernel_rfl) (by kernel_rfl) (by kernel_rfl) (fun _ _ _ h => h) (Or.inl ⟨by rfl, ?_⟩) (by assumption) ?_
                  rotate_left 1
                  · intro w hSw
                    (try dsimp only at hSw)
                    go_simp
                    try with_reducible rfl
                  try simp only [Act.put, List.setIfInBounds_toArray, List.set_cons_zero, List.set_cons_succ]
                  refine wpAnyH_take (i := 15) (oi := { dst := some 71, op := Op.move (Operand.tmp 10), type := 3, pos := "laws.go:1239", after := #[{ on := 13, ground := Ground.guard }], guard := some (13, true) }) (v := ?_) rfl (by kernel_rfl) (by kernel_rfl) (by kernel_rfl) (fun _ _ _ h => h) (Or.inl ⟨by rfl, ?_⟩) (by assumption) ?_
                  rotate_left 1
                  · intro w hSw
                    (try dsimp only at hSw)
                    go_simp
                    try with_reducible rfl
                  try simp only [Act.put, List.setIfInBounds_toArray, List.set_cons_zero, List.set_cons_succ]
                  refine wpAnyH_take (i := 16) (oi := { dst := some 72, op := Op.indexAddr 29 (Operand.tmp 70) (Operand.tmp 71), type := 0, pos := "laws.go:1239", after := #[{ on := 14, ground := Ground.data }, { on := 15, ground := Ground.data }, { on := 13, ground := Ground.guard }], guard := some (13, true) }) (v := ?_) rfl (by kernel_rfl) (by kernel_rfl) (by kernel_rfl) (fun _ _ _ h => h) (Or.inl ⟨by rfl, ?_⟩) (by assumption) ?_
                  rotate_left 1
                  · intro w hSw
                    (try dsimp only at hSw)
                    go_simp
                    try with_reducible rfl
                  try simp only [Act.put, List.setIfInBounds_toArray, List.set_cons_zero, List.set_cons_succ]
                  refine wpAnyH_take (i := 17) (oi := { dst := some 73, op := Op.fieldAddr 33 (Operand.tmp 72) 3, type := 0, pos := "laws.go:1239", after := #[{ on := 16, ground := Ground.data }, { on := 13, ground := Ground.guard }], guard := some (13, true) }) (v := ?_) rfl (by kernel_rfl) (by kernel_rfl) (by kernel_rfl) (fun _ _ _ h => h) (Or.inl ⟨by rfl, ?_⟩) (by assumption) ?_
                  rotate_left 1
                  · intro w hSw
                    (try dsimp only at hSw)
                    go_simp
                    try with_reducible rfl
                  try simp only [Act.put, List.setIfInBounds_toArray, List.set_cons_zero, List.set_cons_succ]
                  refine wpAnyH_take (i := 18) (oi := { dst := some 74, op := Op.load 9 (Operand.tmp 73), type := 9, pos := "laws.go:1239", after := #[{ on := 17, ground := Ground.data }, { on := 13, ground := Ground.guard }], guard := some (13, true) }) (v := ?_) rfl (by kernel_rfl) (by kernel_rfl) (by kernel_rfl) (fun _ _ _ h => h) (Or.inl ⟨by rfl, ?_⟩) (by assumption) ?_
                  rotate_left 1
                  · intro w hSw
                    (try dsimp only at hSw)
                    go_simp
                    try with_reducible rfl
                  try simp only [Act.put, List.setIfInBounds_toArray, List.set_cons_zero, List.set_cons_succ]
                  refine wpAnyH_take (i := 19) (oi := { dst := some 75, op := Op.move (Operand.tmp 4), type := 23, pos := "laws.go:1239", after := #[{ on := 13, ground := Ground.guard }], guard := some (13, true) }) (v := ?_) rfl (by kernel_rfl) (by kernel_rfl) (by kernel_rfl) (fun _ _ _ h => h) (Or.inl ⟨by rfl, ?_⟩) (by assumption) ?_
                  rotate_left 1
                  · intro w hSw
                    (try dsimp only at hSw)
                    go_simp
                    try with_reducible rfl
                  try simp only [Act.put, List.setIfInBounds_toArray, List.set_cons_zero, List.set_cons_succ]
                  refine wpAnyH_take (i := 20) (oi := { dst := some 76, op := Op.move (Operand.tmp 8), type := 3, pos := "laws.go:1239", after := #[{ on := 13, ground := Ground.guard }], guard := some (13, true) }) (v := ?_) rfl (by kernel_rfl) (by kernel_rfl) (by kernel_rfl) (fun _ _ _ h => h) (Or.inl ⟨by rfl, ?_⟩) (by assumption) ?_
                  rotate_left 1
                  · intro w hSw
                    (try dsimp only at hSw)
                    go_simp
                    try with_reducible rfl
                  try simp only [Act.put, List.setIfInBounds_toArray, List.set_cons_zero, List.set_cons_succ]
                  refine wpAnyH_take (i := 21) (oi := { dst := some 77, op := Op.indexAddr 23 (Operand.tmp 75) (Operand.tmp 76), type := 0, pos := "laws.go:1239", after := #[{ on := 19, ground := Ground.data }, { on := 20, ground := Ground.data }, { on := 13, ground := Ground.guard }], guard := some (13, true) }) (v := ?_) rfl (by kernel_rfl) (by kernel_rfl) (by kernel_rfl) (fun _ _ _ h => h) (Or.inl ⟨by rfl, ?_⟩) (by assumption) ?_
                  rotate_left 1
                  · intro w hSw
                    (try dsimp only at hSw)
                    go_simp
                    try with_reducible rfl
                  try simp only [Act.put, List.setIfInBounds_toArray, List.set_cons_zero, List.set_cons_succ]
                  refine wpAnyH_take (i := 22) (oi := { dst := some 78, op := Op.load 36 (Operand.tmp 77), type := 36, pos := "laws.go:1239", after := #[{ on := 21, ground := Ground.data }, { on := 13, ground := Ground.guard }], guard := some (13, true) }) (v := ?_) rfl (by kernel_rfl) (by kernel_rfl) (by kernel_rfl) (fun _ _ _ h => h) (Or.inl ⟨by rfl, ?_⟩) (by assumption) ?_
                  rotate_left 1
                  · intro w hSw
                    (try dsimp only at hSw)
                    go_simp
                    try with_reducible rfl
                  try simp only [Act.put, List.setIfInBounds_toArray, List.set_cons_zero, List.set_cons_succ]
                  refine wpAnyH_ready (rs := [23]) (by kernel_rfl) (by simp) ?_
                  refine AllReadyH.cons (o := { dst := some 79, op := Op.call { callee := Callee.value (Operand.func 9), args := #[Operand.tmp 74, Operand.tmp 78], argTypes := #[9, 36] }, type := 2, pos := "laws.go:1239", after := #[{ on := 18, ground := Ground.data }, { on := 22, ground := Ground.data }, { on := 13, ground := Ground.chain }, { on := 13, ground := Ground.guard }], guard := some (13, true) }) rfl (fun K hK => ?_) AllReadyH.nil
                  go_simp
                  go_at_call 9
                  refine (QF.out _ (by first | exact HB.out | exact HB.out.drew)).mono ?_
                  rintro e wf ⟨rfl, hbf⟩
                  have bf : Below w8.heap.size w8 wf := (by first | exact HB.out.trans (hbf.mono HB.out.size) | exact HB.out.drew.trans (hbf.mono HB.out.size))
                  have qf := HS4.out wf bf
                  clear hbf
                  try dsimp only
                  refine hK.out _ _ ?_ (fun hHeld => ?_)
                  · try dsimp only
                    exact qf
                  clear hK K
                  try simp only [Act.put, List.setIfInBounds_toArray, List.set_cons_zero, List.set_cons_succ]
                  refine wpAnyH_take (i := 24) (oi := { dst := some 80, op := Op.binOp BinOp.eql 2 (Operand.tmp 79) (Operand.const (Value.int IntKind.i64 (-1))) 2, type := 4, pos := "laws.go:1239", after := #[{ on := 23, ground := Ground.data }, { on := 13, ground := Ground.guard }], guard := some (13, true) }) (v := ?_) rfl (by kernel_rfl) (by kernel_rfl) (by kernel_rfl) (fun _ _ _ h => h) (Or.inl ⟨by rfl, ?_⟩) (by assumption) ?_
                  rotate_left 1
                  · intro w hSw
                    (try dsimp only at hSw)
                    go_simp
                    try with_reducible rfl
                  try simp only [Act.put, List.setIfInBounds_toArray, List.set_cons_zero, List.set_cons_succ]
                  refine wpAnyH_take (i := 25) (oi := { dst := some 81, op := Op.pick (Operand.tmp 69) (Operand.tmp 80) (Operand.const (Value.bool false)), type := 4, pos := "laws.go:1239", after := #[{ on := 13, ground := Ground.data }, { on := 24, ground := Ground.data }, { on := 1, ground := Ground.guard }], guard := some (1, false) }) (v := ?_) rfl (by kernel_rfl) (by kernel_rfl) (by kernel_rfl) (fun _ _ _ h => h) (Or.inl ⟨by rfl, ?_⟩) (by assumption) ?_
                  rotate_left 1
                  · intro w hSw
                    (try dsimp only at hSw)
                    go_simp
                    try with_reducible rfl
                  try simp only [Act.put, List.setIfInBounds_toArray, List.set_cons_zero, List.set_cons_succ]
                  refine wpAnyH_take (i := 26) (oi := { dst := some 82, op := Op.move (Operand.tmp 81), type := 4, pos := "laws.go:1239", after := #[{ on := 25, ground := Ground.data }, { on := 23, ground := Ground.chain }, { on := 1, ground := Ground.guard }], guard := some (1, false) }) (v := ?_) rfl (by kernel_rfl) (by kernel_rfl) (by kernel_rfl) (fun _ _ _ h => h) (Or.inl ⟨by rfl, ?_⟩) (by assumption) ?_
                  rotate_left 1
                  · intro w hSw
                    (try dsimp only at hSw)
                    go_simp
                    try with_reducible rfl
                  try simp only [Act.put, List.setIfInBounds_toArray, List.set_cons_zero, List.set_cons_succ]
                  refine wpAnyH_take (i := 27) (oi := { dst := some 83, op := Op.move (Operand.tmp 3), type := 2, pos := "laws.go:1239", after := #[{ on := 26, ground := Ground.guard }], guard := some (26, true) }) (v := ?_) rfl (by kernel_rfl) (by kernel_rfl) (by kernel_rfl) (fun _ _ _ h => h) (Or.inl ⟨by rfl, ?_⟩) (by assumption) ?_
                  rotate_left 1
                  · intro w hSw
                    (try dsimp only at hSw)
                    go_simp
                    try with_reducible rfl
                  try simp only [Act.put, List.setIfInBounds_toArray, List.set_cons_zero, List.set_cons_succ]
                  refine wpAnyH_take (i := 28) (oi := { dst := some 84, op := Op.move (Operand.tmp 10), type := 3, pos := "laws.go:1239", after := #[{ on := 26, ground := Ground.guard }], guard := some (26, true) }) (v := ?_) rfl (by kernel_rfl) (by kernel_rfl) (by kernel_rfl) (fun _ _ _ h => h) (Or.inl ⟨by rfl, ?_⟩) (by assumption) ?_
                  rotate_left 1
                  · intro w hSw
                    (try dsimp only at hSw)
                    go_simp
                    try with_reducible rfl
                  try simp only [Act.put, List.setIfInBounds_toArray, List.set_cons_zero, List.set_cons_succ]
                  refine wpAnyH_take (i := 30) (oi := { dst := some 86, op := Op.move (Operand.tmp 4), type := 23, pos := "laws.go:1239", after := #[{ on := 26, ground := Ground.guard }], guard := some (26, true) }) (v := ?_) rfl (by kernel_rfl) (by kernel_rfl) (by kernel_rfl) (fun _ _ _ h => h) (Or.inl ⟨by rfl, ?_⟩) (by assumption) ?_
                  rotate_left 1
                  · intro w hSw
                    (try dsimp only at hSw)
                    go_simp
                    try with_reducible rfl
                  try simp only [Act.put, List.setIfInBounds_toArray, List.set_cons_zero, List.set_cons_succ]
                  refine wpAnyH_take (i := 31) (oi := { dst := some 87, op := Op.move (Operand.tmp 8), type := 3, pos := "laws.go:1239", after := #[{ on := 26, ground := Ground.guard }], guard := some (26, true) }) (v := ?_) rfl (by kernel_rfl) (by kernel_rfl) (by kernel_rfl) (fun _ _ _ h => h) (Or.inl ⟨by rfl, ?_⟩) (by assumption) ?_
                  rotate_left 1
                  · intro w hSw
                    (try dsimp only at hSw)
                    go_simp
                    try with_reducible rfl
                  try simp only [Act.put, List.setIfInBounds_toArray, List.set_cons_zero, List.set_cons_succ]
                  refine wpAnyH_take (i := 32) (oi := { dst := some 88, op := Op.indexAddr 23 (Operand.tmp 86) (Operand.tmp 87), type := 0, pos := "laws.go:1239", after := #[{ on := 30, ground := Ground.data }, { on := 31, ground := Ground.data }, { on := 26, ground := Ground.guard }], guard := some (26, true) }) (v := ?_) rfl (by kernel_rfl) (by kernel_rfl) (by kernel_rfl) (fun _ _ _ h => h) (Or.inl ⟨by rfl, ?_⟩) (by assumption) ?_
                  rotate_left 1
                  · intro w hSw
                    (try dsimp only at hSw)
                    go_simp
                    try with_reducible rfl
                  try simp only [Act.put, List.setIfInBounds_toArray, List.set_cons_zero, List.set_cons_succ]
                  refine wpAnyH_take (i := 33) (oi := { dst := some 89, op := Op.fieldAddr 36 (Operand.tmp 88) 0, type := 0, pos := "laws.go:1239", after := #[{ on := 32, ground := Ground.data }, { on := 26, ground := Ground.guard }], guard := some (26, true) }) (v := ?_) rfl (by kernel_rfl) (by kernel_rfl) (by kernel_rfl) (fun _ _ _ h => h) (Or.inl ⟨by rfl, ?_⟩) (by assumption) ?_
                  rotate_left 1
                  · intro w hSw
                    (try dsimp only at hSw)
                    go_simp
                    try with_reducible rfl
                  try simp only [Act.put, List.setIfInBounds_toArray, List.set_cons_zero, List.set_cons_succ]
                  refine wpAnyH_take (i := 34) (oi := { dst := some 90, op := Op.load 9 (Operand.tmp 89), type := 9, pos := "laws.go:1239", after := #[{ on := 33, ground := Ground.data }, { on := 26, ground := Ground.guard }], guard := some (26, true) }) (v := ?_) rfl (by kernel_rfl) (by kernel_rfl) (by kernel_rfl) (fun _ _ _ h => h) (Or.inl ⟨by rfl, ?_⟩) (by assumption) ?_
                  rotate_left 1
                  · intro w hSw
                    (try dsimp only at hSw)
                    go_simp
                    try with_reducible rfl
                  try simp only [Act.put, List.setIfInBounds_toArray, List.set_cons_zero, List.set_cons_succ]
                  refine wpAnyH_ready (rs := [29]) (by kernel_rfl) (by simp) ?_
                  refine AllReadyH.cons (o := { dst := some 85, op := Op.call { callee := Callee.value (Operand.func 10), args := #[Operand.tmp 83, Operand.tmp 84], argTypes := #[2, 2] }, type := 9, pos := "laws.go:1239", after := #[{ on := 27, ground := Ground.data }, { on := 28, ground := Ground.data }, { on := 26, ground := Ground.chain }, { on := 26, ground := Ground.guard }], guard := some (26, true) }) rfl (fun K hK => ?_) AllReadyH.nil
                  go_simp
                  go_at_call 10
                  refine (QT.out _ (by first | exact bf | exact bf.drew)).mono ?_
                  rintro e wt ⟨rfl, hbt⟩
                  have bt : Below w8.heap.size w8 wt := (by first | exact bf.trans (hbt.mono bf.size) | exact bf.drew.trans (hbt.mono bf.size))
                  have qt := HS4.out wt bt
                  clear hbt
                  try dsimp only
                  refine hK.out _ _ ?_ (fun hHeld => ?_)
                  · try dsimp only
                    exact qt
                  clear hK K
                  try simp only [Act.put, List.setIfInBounds_toArray, List.set_cons_zero, List.set_cons_succ]
                  refine wpAnyH_take (i := 35) (oi := { dst := some 91, op := Op.binOp BinOp.eql 9 (Operand.tmp 85) (Operand.tmp 90) 9, type := 4, pos := "laws.go:1239", after := #[{ on := 29, ground := Ground.data }, { on := 34, ground := Ground.data }, { on := 26, ground := Ground.guard }], guard := some (26, true) }) (v := ?_) rfl (by kernel_rfl) (by kernel_rfl) (by kernel_rfl) (fun _ _ _ h => h) (Or.inl ⟨by rfl, ?_⟩) (by assumption) ?_
                  rotate_left 1
                  · intro w hSw
                    (try dsimp only at hSw)
                    go_simp
                    try with_reducible rfl
                  try simp only [Act.put, List.setIfInBounds_toArray, List.set_cons_zero, List.set_cons_succ]
                  refine wpAnyH_take (i := 36) (oi := { dst := some 92, op := Op.pick (Operand.tmp 82) (Operand.tmp 91) (Operand.const (Value.bool false)), type := 4, pos := "laws.go:1239", after := #[{ on := 26, ground := Ground.data }, { on := 35, ground := Ground.data }, { on := 1, ground := Ground.guard }], guard := some (1, false) }) (v := ?_) rfl (by kernel_rfl) (by kernel_rfl) (by kernel_rfl) (fun _ _ _ h => h) (Or.inl ⟨by rfl, ?_⟩) (by assumption) ?_
                  rotate_left 1
                  · intro w hSw
                    (try dsimp only at hSw)
                    go_simp
                    try with_reducible rfl
                  try simp only [Act.put, List.setIfInBounds_toArray, List.set_cons_zero, List.set_cons_succ]
                  refine wpAnyH_take (i := 37) (oi := { dst := some 93, op := Op.pick (Operand.tmp 57) (Operand.const (Value.bool true)) (Operand.tmp 92), type := 4, pos := "laws.go:1239", after := #[{ on := 1, ground := Ground.data }, { on := 36, ground := Ground.data }], guard := none }) (v := ?_) rfl (by kernel_rfl) (by kernel_rfl) (by kernel_rfl) (fun _ _ _ h => h) (Or.inl ⟨by rfl, ?_⟩) (by assumption) ?_
                  rotate_left 1
                  · intro w hSw
                    (try dsimp only at hSw)
                    go_simp
                    try with_reducible rfl
                  try simp only [Act.put, List.setIfInBounds_toArray, List.set_cons_zero, List.set_cons_succ]
                  refine wpAnyH_take (i := 38) (oi := { dst := some 9, op := Op.assign (Operand.tmp 93), type := 4, pos := "laws.go:1239", after := #[{ on := 37, ground := Ground.data }, { on := 29, ground := Ground.chain }, { on := 0, ground := Ground.phase }, { on := 1, ground := Ground.phase }, { on := 2, ground := Ground.phase }, { on := 3, ground := Ground.phase }, { on := 4, ground := Ground.phase }, { on := 5, ground := Ground.phase }, { on := 6, ground := Ground.phase }, { on := 7, ground := Ground.phase }, { on := 8, ground := Ground.phase }, { on := 9, ground := Ground.phase }, { on := 10, ground := Ground.phase }, { on := 11, ground := Ground.phase }, { on := 12, ground := Ground.phase }, { on := 13, ground := Ground.phase }, { on := 14, ground := Ground.phase }, { on := 15, ground := Ground.phase }, { on := 16, ground := Ground.phase }, { on := 17, ground := Ground.phase }, { on := 18, ground := Ground.phase }, { on := 19, ground := Ground.phase }, { on := 20, ground := Ground.phase }, { on := 21, ground := Ground.phase }, { on := 22, ground := Ground.phase }, { on := 23, ground := Ground.phase }, { on := 24, ground := Ground.phase }, { on := 25, ground := Ground.phase }, { on := 26, ground := Ground.phase }, { on := 27, ground := Ground.phase }, { on := 28, ground := Ground.phase }, { on := 29, ground := Ground.phase }, { on := 30, ground := Ground.phase }, { on := 31, ground := Ground.phase }, { on := 32, ground := Ground.phase }, { on := 33, ground := Ground.phase }, { on := 34, ground := Ground.phase }, { on := 35, ground := Ground.phase }, { on := 36, ground := Ground.phase }, { on := 37, ground := Ground.phase }], guard := none }) (v := ?_) rfl (by kernel_rfl) (by kernel_rfl) (by kernel_rfl) (fun _ _ _ h => h) (Or.inl ⟨by rfl, ?_⟩) (by assumption) ?_
                  rotate_left 1
                  · intro w hSw
                    (try dsimp only at hSw)
                    go_simp
                    try with_reducible rfl
                  try simp only [Act.put, List.setIfInBounds_toArray, List.set_cons_zero, List.set_cons_succ]
                  refine wpAnyH_done (by kernel_rfl) ?_ _
                  go_wp2_with fail
                  go_roundw
                  case rel => exact ⟨true, k + 1, rfl, by go_num, by omega, fun _ => rfl, bt⟩
                  case measure => simp [intOf]; omega
                · have hfm1 : (fv == -1) = false := by rw [beq_eq_false_iff_ne]; exact hfm
                  have HN : Hid (k0 < k + 1 → false = true) := fun h => absurd (HIf.out (by omega)) hfm
                  clear hfm HIf
                  refine wp_region_held_drew (S := (fun W => W.cell? ⟨gR, k * 4, none⟩ = some (.string tR) ∧ W.cell? ⟨gR, k * 4 + 3, none⟩ = some (.string fR) ∧ W.cell? ⟨g, i * 2, none⟩ = some (.string x.1) ∧ W.cell? ⟨g, i * 2 + 1, none⟩ = some (.slice Ax x.2.length Cx))) (by kernel_rfl) ?_ (fun hHeld => ?_)
                  · try dsimp only
                    exact qd
                  refine wpAnyH_take (i := 0) (oi := { dst := some 56, op := Op.move (Operand.tmp 9), type := 4, pos := "laws.go:1239", after := #[], guard := none }) (v := ?_) rfl (by kernel_rfl) (by kernel_rfl) (by kernel_rfl) (fun _ _ _ h => h) (Or.inl ⟨by rfl, ?_⟩) (by assumption) ?_
                  rotate_left 1
                  · intro w hSw
                    (try dsimp only at hSw)
                    go_simp
                    try with_reducible rfl
                  try simp only [Act.put, List.setIfInBounds_toArray, List.set_cons_zero, List.set_cons_succ]
                  refine wpAnyH_take (i := 1) (oi := { dst := some 57, op := Op.move (Operand.tmp 56), type := 4, pos := "laws.go:1239", after := #[{ on := 0, ground := Ground.data }], guard := none }) (v := ?_) rfl (by kernel_rfl) (by kernel_rfl) (by kernel_rfl) (fun _ _ _ h => h) (Or.inl ⟨by rfl, ?_⟩) (by assumption) ?_
                  rotate_left 1
                  · intro w hSw
                    (try dsimp only at hSw)
                    go_simp
                    try with_reducible rfl
                  try simp only [Act.put, List.setIfInBounds_toArray, List.set_cons_zero, List.set_cons_succ]
                  refine wpAnyH_take (i := 2) (oi := { dst := some 58, op := Op.move (Operand.tmp 7), type := 29, pos := "laws.go:1239", after := #[{ on := 1, ground := Ground.guard }], guard := some (1, false) }) (v := ?_) rfl (by kernel_rfl) (by kernel_rfl) (by kernel_rfl) (fun _ _ _ h => h) (Or.inl ⟨by rfl, ?_⟩) (by assumption) ?_
                  rotate_left 1
                  · intro w hSw
                    (try dsimp only at hSw)
                    go_simp
                    try with_reducible rfl
                  try simp only [Act.put, List.setIfInBounds_toArray, List.set_cons_zero, List.set_cons_succ]
                  refine wpAnyH_take (i := 3) (oi := { dst := some 59, op := Op.move (Operand.tmp 10), type := 3, pos := "laws.go:1239", after := #[{ on := 1, ground := Ground.guard }], guard := some (1, false) }) (v := ?_) rfl (by kernel_rfl) (by kernel_rfl) (by kernel_rfl) (fun _ _ _ h => h) (Or.inl ⟨by rfl, ?_⟩) (by assumption) ?_
                  rotate_left 1
                  · intro w hSw
                    (try dsimp only at hSw)
                    go_simp
                    try with_reducible rfl
                  try simp only [Act.put, List.setIfInBounds_toArray, List.set_cons_zero, List.set_cons_succ]
                  refine wpAnyH_take (i := 4) (oi := { dst := some 60, op := Op.indexAddr 29 (Operand.tmp 58) (Operand.tmp 59), type := 0, pos := "laws.go:1239", after := #[{ on := 2, ground := Ground.data }, { on := 3, ground := Ground.data }, { on := 1, ground := Ground.guard }], guard := some (1, false) }) (v := ?_) rfl (by kernel_rfl) (by kernel_rfl) (by kernel_rfl) (fun _ _ _ h => h) (Or.inl ⟨by rfl, ?_⟩) (by assumption) ?_
                  rotate_left 1
                  · intro w hSw
                    (try dsimp only at hSw)
                    go_simp
                    try with_reducible rfl
                  try simp only [Act.put, List.setIfInBounds_toArray, List.set_cons_zero, List.set_cons_succ]
                  refine wpAnyH_take (i := 5) (oi := { dst := some 61, op := Op.fieldAddr 33 (Operand.tmp 60) 0, type := 0, pos := "laws.go:1239", after := #[{ on := 4, ground := Ground.data }, { on := 1, ground := Ground.guard }], guard := some (1, false) }) (v := ?_) rfl (by kernel_rfl) (by kernel_rfl) (by kernel_rfl) (fun _ _ _ h => h) (Or.inl ⟨by rfl, ?_⟩) (by assumption) ?_
                  rotate_left 1
                  · intro w hSw
                    (try dsimp only at hSw)
                    go_simp
                    try with_reducible rfl
                  try simp only [Act.put, List.setIfInBounds_toArray, List.set_cons_zero, List.set_cons_succ]
                  refine wpAnyH_take (i := 6) (oi := { dst := some 62, op := Op.load 9 (Operand.tmp 61), type := 9, pos := "laws.go:1239", after := #[{ on := 5, ground := Ground.data }, { on := 1, ground := Ground.guard }], guard := some (1, false) }) (v := ?_) rfl (by kernel_rfl) (by kernel_rfl) (by kernel_rfl) (fun _ _ _ h => h) (Or.inl ⟨by rfl, ?_⟩) (by assumption) ?_
                  rotate_left 1
                  · intro w hSw
                    (try dsimp only at hSw)
                    go_simp
                    try with_reducible rfl
                  try simp only [Act.put, List.setIfInBounds_toArray, List.set_cons_zero, List.set_cons_succ]
                  refine wpAnyH_take (i := 7) (oi := { dst := some 63, op := Op.move (Operand.tmp 4), type := 23, pos := "laws.go:1239", after := #[{ on := 1, ground := Ground.guard }], guard := some (1, false) }) (v := ?_) rfl (by kernel_rfl) (by kernel_rfl) (by kernel_rfl) (fun _ _ _ h => h) (Or.inl ⟨by rfl, ?_⟩) (by assumption) ?_
                  rotate_left 1
                  · intro w hSw
                    (try dsimp only at hSw)
                    go_simp
                    try with_reducible rfl
                  try simp only [Act.put, List.setIfInBounds_toArray, List.set_cons_zero, List.set_cons_succ]
                  refine wpAnyH_take (i := 8) (oi := { dst := some 64, op := Op.move (Operand.tmp 8), type := 3, pos := "laws.go:1239", after := #[{ on := 1, ground := Ground.guard }], guard := some (1, false) }) (v := ?_) rfl (by kernel_rfl) (by kernel_rfl) (by kernel_rfl) (fun _ _ _ h => h) (Or.inl ⟨by rfl, ?_⟩) (by assumption) ?_
                  rotate_left 1
                  · intro w hSw
                    (try dsimp only at hSw)
                    go_simp
                    try with_reducible rfl
                  try simp only [Act.put, List.setIfInBounds_toArray, List.set_cons_zero, List.set_cons_succ]
                  refine wpAnyH_take (i := 9) (oi := { dst := some 65, op := Op.indexAddr 23 (Operand.tmp 63) (Operand.tmp 64), type := 0, pos := "laws.go:1239", after := #[{ on := 7, ground := Ground.data }, { on := 8, ground := Ground.data }, { on := 1, ground := Ground.guard }], guard := some (1, false) }) (v := ?_) rfl (by kernel_rfl) (by kernel_rfl) (by kernel_rfl) (fun _ _ _ h => h) (Or.inl ⟨by rfl, ?_⟩) (by assumption) ?_
                  rotate_left 1
                  · intro w hSw
                    (try dsimp only at hSw)
                    go_simp
                    try with_reducible rfl
                  try simp only [Act.put, List.setIfInBounds_toArray, List.set_cons_zero, List.set_cons_succ]
                  refine wpAnyH_take (i := 10) (oi := { dst := some 66, op := Op.fieldAddr 36 (Operand.tmp 65) 0, type := 0, pos := "laws.go:1239", after := #[{ on := 9, ground := Ground.data }, { on := 1, ground := Ground.guard }], guard := some (1, false) }) (v := ?_) rfl (by kernel_rfl) (by kernel_rfl) (by kernel_rfl) (fun _ _ _ h => h) (Or.inl ⟨by rfl, ?_⟩) (by assumption) ?_
                  rotate_left 1
                  · intro w hSw
                    (try dsimp only at hSw)
                    go_simp
                    try with_reducible rfl
                  try simp only [Act.put, List.setIfInBounds_toArray, List.set_cons_zero, List.set_cons_succ]
                  refine wpAnyH_take (i := 11) (oi := { dst := some 67, op := Op.load 9 (Operand.tmp 66), type := 9, pos := "laws.go:1239", after := #[{ on := 10, ground := Ground.data }, { on := 1, ground := Ground.guard }], guard := some (1, false) }) (v := ?_) rfl (by kernel_rfl) (by kernel_rfl) (by kernel_rfl) (fun _ _ _ h => h) (Or.inl ⟨by rfl, ?_⟩) (by assumption) ?_
                  rotate_left 1
                  · intro w hSw
                    (try dsimp only at hSw)
                    go_simp
                    try with_reducible rfl
                  try simp only [Act.put, List.setIfInBounds_toArray, List.set_cons_zero, List.set_cons_succ]
                  refine wpAnyH_take (i := 12) (oi := { dst := some 68, op := Op.binOp BinOp.eql 9 (Operand.tmp 62) (Operand.tmp 67) 9, type := 4, pos := "laws.go:1239", after := #[{ on := 6, ground := Ground.data }, { on := 11, ground := Ground.data }, { on := 1, ground := Ground.guard }], guard := some (1, false) }) (v := ?_) rfl (by kernel_rfl) (by kernel_rfl) (by kernel_rfl) (fun _ _ _ h => h) (Or.inl ⟨by rfl, ?_⟩) (by assumption) ?_
                  rotate_left 1
                  · intro w hSw
                    (try dsimp only at hSw)
                    go_simp
                    try with_reducible rfl
                  try simp only [Act.put, List.setIfInBounds_toArray, List.set_cons_zero, List.set_cons_succ]
                  refine wpAnyH_take (i := 13) (oi := { dst := some 69, op := Op.move (Operand.tmp 68), type := 4, pos := "laws.go:1239", after := #[{ on := 12, ground := Ground.data }, { on := 1, ground := Ground.chain }, { on := 1, ground := Ground.guard }], guard := some (1, false) }) (v := ?_) rfl (by kernel_rfl) (by kernel_rfl) (by kernel_rfl) (fun _ _ _ h => h) (Or.inl ⟨by rfl, ?_⟩) (by assumption) ?_
                  rotate_left 1
                  · intro w hSw
                    (try dsimp only at hSw)
                    go_simp
                    try with_reducible rfl
                  try simp only [Act.put, List.setIfInBounds_toArray, List.set_cons_zero, List.set_cons_succ]
                  refine wpAnyH_take (i := 14) (oi := { dst := some 70, op := Op.move (Operand.tmp 7), type := 29, pos := "laws.go:1239", after := #[{ on := 13, ground := Ground.guard }], guard := some (13, true) }) (v := ?_) rfl (by kernel_rfl) (by kernel_rfl) (by kernel_rfl) (fun _ _ _ h => h) (Or.inl ⟨by rfl, ?_⟩) (by assumption) ?_
                  rotate_left 1
                  · intro w hSw
                    (try dsimp only at hSw)
                    go_simp
                    try with_reducible rfl
                  try simp only [Act.put, List.setIfInBounds_toArray, List.set_cons_zero, List.set_cons_succ]
                  refine wpAnyH_take (i := 15) (oi := { dst := some 71, op := Op.move (Operand.tmp 10), type := 3, pos := "laws.go:1239", after := #[{ on := 13, ground := Ground.guard }], guard := some (13, true) }) (v := ?_) rfl (by kernel_rfl) (by kernel_rfl) (by kernel_rfl) (fun _ _ _ h => h) (Or.inl ⟨by rfl, ?_⟩) (by assumption) ?_
                  rotate_left 1
                  · intro w hSw
                    (try dsimp only at hSw)
                    go_simp
                    try with_reducible rfl
                  try simp only [Act.put, List.setIfInBounds_toArray, List.set_cons_zero, List.set_cons_succ]
                  refine wpAnyH_take (i := 16) (oi := { dst := some 72, op := Op.indexAddr 29 (Operand.tmp 70) (Operand.tmp 71), type := 0, pos := "laws.go:1239", after := #[{ on := 14, ground := Ground.data }, { on := 15, ground := Ground.data }, { on := 13, ground := Ground.guard }], guard := some (13, true) }) (v := ?_) rfl (by kernel_rfl) (by kernel_rfl) (by kernel_rfl) (fun _ _ _ h => h) (Or.inl ⟨by rfl, ?_⟩) (by assumption) ?_
                  rotate_left 1
                  · intro w hSw
                    (try dsimp only at hSw)
                    go_simp
                    try with_reducible rfl
                  try simp only [Act.put, List.setIfInBounds_toArray, List.set_cons_zero, List.set_cons_succ]
                  refine wpAnyH_take (i := 17) (oi := { dst := some 73, op := Op.fieldAddr 33 (Operand.tmp 72) 3, type := 0, pos := "laws.go:1239", after := #[{ on := 16, ground := Ground.data }, { on := 13, ground := Ground.guard }], guard := some (13, true) }) (v := ?_) rfl (by kernel_rfl) (by kernel_rfl) (by kernel_rfl) (fun _ _ _ h => h) (Or.inl ⟨by rfl, ?_⟩) (by assumption) ?_
                  rotate_left 1
                  · intro w hSw
                    (try dsimp only at hSw)
                    go_simp
                    try with_reducible rfl
                  try simp only [Act.put, List.setIfInBounds_toArray, List.set_cons_zero, List.set_cons_succ]
                  refine wpAnyH_take (i := 18) (oi := { dst := some 74, op := Op.load 9 (Operand.tmp 73), type := 9, pos := "laws.go:1239", after := #[{ on := 17, ground := Ground.data }, { on := 13, ground := Ground.guard }], guard := some (13, true) }) (v := ?_) rfl (by kernel_rfl) (by kernel_rfl) (by kernel_rfl) (fun _ _ _ h => h) (Or.inl ⟨by rfl, ?_⟩) (by assumption) ?_
                  rotate_left 1
                  · intro w hSw
                    (try dsimp only at hSw)
                    go_simp
                    try with_reducible rfl
                  try simp only [Act.put, List.setIfInBounds_toArray, List.set_cons_zero, List.set_cons_succ]
                  refine wpAnyH_take (i := 19) (oi := { dst := some 75, op := Op.move (Operand.tmp 4), type := 23, pos := "laws.go:1239", after := #[{ on := 13, ground := Ground.guard }], guard := some (13, true) }) (v := ?_) rfl (by kernel_rfl) (by kernel_rfl) (by kernel_rfl) (fun _ _ _ h => h) (Or.inl ⟨by rfl, ?_⟩) (by assumption) ?_
                  rotate_left 1
                  · intro w hSw
                    (try dsimp only at hSw)
                    go_simp
                    try with_reducible rfl
                  try simp only [Act.put, List.setIfInBounds_toArray, List.set_cons_zero, List.set_cons_succ]
                  refine wpAnyH_take (i := 20) (oi := { dst := some 76, op := Op.move (Operand.tmp 8), type := 3, pos := "laws.go:1239", after := #[{ on := 13, ground := Ground.guard }], guard := some (13, true) }) (v := ?_) rfl (by kernel_rfl) (by kernel_rfl) (by kernel_rfl) (fun _ _ _ h => h) (Or.inl ⟨by rfl, ?_⟩) (by assumption) ?_
                  rotate_left 1
                  · intro w hSw
                    (try dsimp only at hSw)
                    go_simp
                    try with_reducible rfl
                  try simp only [Act.put, List.setIfInBounds_toArray, List.set_cons_zero, List.set_cons_succ]
                  refine wpAnyH_take (i := 21) (oi := { dst := some 77, op := Op.indexAddr 23 (Operand.tmp 75) (Operand.tmp 76), type := 0, pos := "laws.go:1239", after := #[{ on := 19, ground := Ground.data }, { on := 20, ground := Ground.data }, { on := 13, ground := Ground.guard }], guard := some (13, true) }) (v := ?_) rfl (by kernel_rfl) (by kernel_rfl) (by kernel_rfl) (fun _ _ _ h => h) (Or.inl ⟨by rfl, ?_⟩) (by assumption) ?_
                  rotate_left 1
                  · intro w hSw
                    (try dsimp only at hSw)
                    go_simp
                    try with_reducible rfl
                  try simp only [Act.put, List.setIfInBounds_toArray, List.set_cons_zero, List.set_cons_succ]
                  refine wpAnyH_take (i := 22) (oi := { dst := some 78, op := Op.load 36 (Operand.tmp 77), type := 36, pos := "laws.go:1239", after := #[{ on := 21, ground := Ground.data }, { on := 13, ground := Ground.guard }], guard := some (13, true) }) (v := ?_) rfl (by kernel_rfl) (by kernel_rfl) (by kernel_rfl) (fun _ _ _ h => h) (Or.inl ⟨by rfl, ?_⟩) (by assumption) ?_
                  rotate_left 1
                  · intro w hSw
                    (try dsimp only at hSw)
                    go_simp
                    try with_reducible rfl
                  try simp only [Act.put, List.setIfInBounds_toArray, List.set_cons_zero, List.set_cons_succ]
                  refine wpAnyH_ready (rs := [23]) (by kernel_rfl) (by simp) ?_
                  refine AllReadyH.cons (o := { dst := some 79, op := Op.call { callee := Callee.value (Operand.func 9), args := #[Operand.tmp 74, Operand.tmp 78], argTypes := #[9, 36] }, type := 2, pos := "laws.go:1239", after := #[{ on := 18, ground := Ground.data }, { on := 22, ground := Ground.data }, { on := 13, ground := Ground.chain }, { on := 13, ground := Ground.guard }], guard := some (13, true) }) rfl (fun K hK => ?_) AllReadyH.nil
                  go_simp
                  go_at_call 9
                  refine (QF.out _ (by first | exact HB.out | exact HB.out.drew)).mono ?_
                  rintro e wf ⟨rfl, hbf⟩
                  have bf : Below w8.heap.size w8 wf := (by first | exact HB.out.trans (hbf.mono HB.out.size) | exact HB.out.drew.trans (hbf.mono HB.out.size))
                  have qf := HS4.out wf bf
                  clear hbf
                  try dsimp only
                  refine hK.out _ _ ?_ (fun hHeld => ?_)
                  · try dsimp only
                    exact qf
                  clear hK K
                  try simp only [Act.put, List.setIfInBounds_toArray, List.set_cons_zero, List.set_cons_succ]
                  refine wpAnyH_take (i := 24) (oi := { dst := some 80, op := Op.binOp BinOp.eql 2 (Operand.tmp 79) (Operand.const (Value.int IntKind.i64 (-1))) 2, type := 4, pos := "laws.go:1239", after := #[{ on := 23, ground := Ground.data }, { on := 13, ground := Ground.guard }], guard := some (13, true) }) (v := ?_) rfl (by kernel_rfl) (by kernel_rfl) (by kernel_rfl) (fun _ _ _ h => h) (Or.inl ⟨by rfl, ?_⟩) (by assumption) ?_
                  rotate_left 1
                  · intro w hSw
                    (try dsimp only at hSw)
                    go_simp
                    try with_reducible rfl
                  try simp only [Act.put, List.setIfInBounds_toArray, List.set_cons_zero, List.set_cons_succ]
                  refine wpAnyH_take (i := 25) (oi := { dst := some 81, op := Op.pick (Operand.tmp 69) (Operand.tmp 80) (Operand.const (Value.bool false)), type := 4, pos := "laws.go:1239", after := #[{ on := 13, ground := Ground.data }, { on := 24, ground := Ground.data }, { on := 1, ground := Ground.guard }], guard := some (1, false) }) (v := ?_) rfl (by kernel_rfl) (by kernel_rfl) (by kernel_rfl) (fun _ _ _ h => h) (Or.inl ⟨by rfl, ?_⟩) (by assumption) ?_
                  rotate_left 1
                  · intro w hSw
                    (try dsimp only at hSw)
                    go_simp
                    try with_reducible rfl
                  try simp only [Act.put, List.setIfInBounds_toArray, List.set_cons_zero, List.set_cons_succ]
                  refine wpAnyH_take (i := 26) (oi := { dst := some 82, op := Op.move (Operand.tmp 81), type := 4, pos := "laws.go:1239", after := #[{ on := 25, ground := Ground.data }, { on := 23, ground := Ground.chain }, { on := 1, ground := Ground.guard }], guard := some (1, false) }) (v := ?_) rfl (by kernel_rfl) (by kernel_rfl) (by kernel_rfl) (fun _ _ _ h => h) (Or.inl ⟨by rfl, ?_⟩) (by assumption) ?_
                  rotate_left 1
                  · intro w hSw
                    (try dsimp only at hSw)
                    go_simp
                    try with_reducible rfl
                  try simp only [Act.put, List.setIfInBounds_toArray, List.set_cons_zero, List.set_cons_succ]
                  refine wpAnyH_take (i := 27) (oi := { dst := some 83, op := Op.move (Operand.tmp 3), type := 2, pos := "laws.go:1239", after := #[{ on := 26, ground := Ground.guard }], guard := some (26, true) }) (v := undef) rfl (by kernel_rfl) (by kernel_rfl) (by kernel_rfl) (fun _ _ _ h => h) (Or.inr ⟨by rfl, rfl⟩) (by assumption) ?_
                  try simp only [Act.put, List.setIfInBounds_toArray, List.set_cons_zero, List.set_cons_succ]
                  refine wpAnyH_take (i := 28) (oi := { dst := some 84, op := Op.move (Operand.tmp 10), type := 3, pos := "laws.go:1239", after := #[{ on := 26, ground := Ground.guard }], guard := some (26, true) }) (v := undef) rfl (by kernel_rfl) (by kernel_rfl) (by kernel_rfl) (fun _ _ _ h => h) (Or.inr ⟨by rfl, rfl⟩) (by assumption) ?_
                  try simp only [Act.put, List.setIfInBounds_toArray, List.set_cons_zero, List.set_cons_succ]
                  refine wpAnyH_take (i := 29) (oi := { dst := some 85, op := Op.call { callee := Callee.value (Operand.func 10), args := #[Operand.tmp 83, Operand.tmp 84], argTypes := #[2, 2] }, type := 9, pos := "laws.go:1239", after := #[{ on := 27, ground := Ground.data }, { on := 28, ground := Ground.data }, { on := 26, ground := Ground.chain }, { on := 26, ground := Ground.guard }], guard := some (26, true) }) (v := undef) rfl (by kernel_rfl) (by kernel_rfl) (by kernel_rfl) (fun _ _ _ h => h) (Or.inr ⟨by rfl, rfl⟩) (by assumption) ?_
                  try simp only [Act.put, List.setIfInBounds_toArray, List.set_cons_zero, List.set_cons_succ]
                  refine wpAnyH_take (i := 30) (oi := { dst := some 86, op := Op.move (Operand.tmp 4), type := 23, pos := "laws.go:1239", after := #[{ on := 26, ground := Ground.guard }], guard := some (26, true) }) (v := undef) rfl (by kernel_rfl) (by kernel_rfl) (by kernel_rfl) (fun _ _ _ h => h) (Or.inr ⟨by rfl, rfl⟩) (by assumption) ?_
                  try simp only [Act.put, List.setIfInBounds_toArray, List.set_cons_zero, List.set_cons_succ]
                  refine wpAnyH_take (i := 31) (oi := { dst := some 87, op := Op.move (Operand.tmp 8), type := 3, pos := "laws.go:1239", after := #[{ on := 26, ground := Ground.guard }], guard := some (26, true) }) (v := undef) rfl (by kernel_rfl) (by kernel_rfl) (by kernel_rfl) (fun _ _ _ h => h) (Or.inr ⟨by rfl, rfl⟩) (by assumption) ?_
                  try simp only [Act.put, List.setIfInBounds_toArray, List.set_cons_zero, List.set_cons_succ]
                  refine wpAnyH_take (i := 32) (oi := { dst := some 88, op := Op.indexAddr 23 (Operand.tmp 86) (Operand.tmp 87), type := 0, pos := "laws.go:1239", after := #[{ on := 30, ground := Ground.data }, { on := 31, ground := Ground.data }, { on := 26, ground := Ground.guard }], guard := some (26, true) }) (v := undef) rfl (by kernel_rfl) (by kernel_rfl) (by kernel_rfl) (fun _ _ _ h => h) (Or.inr ⟨by rfl, rfl⟩) (by assumption) ?_
                  try simp only [Act.put, List.setIfInBounds_toArray, List.set_cons_zero, List.set_cons_succ]
                  refine wpAnyH_take (i := 33) (oi := { dst := some 89, op := Op.fieldAddr 36 (Operand.tmp 88) 0, type := 0, pos := "laws.go:1239", after := #[{ on := 32, ground := Ground.data }, { on := 26, ground := Ground.guard }], guard := some (26, true) }) (v := undef) rfl (by kernel_rfl) (by kernel_rfl) (by kernel_rfl) (fun _ _ _ h => h) (Or.inr ⟨by rfl, rfl⟩) (by assumption) ?_
                  try simp only [Act.put, List.setIfInBounds_toArray, List.set_cons_zero, List.set_cons_succ]
                  refine wpAnyH_take (i := 34) (oi := { dst := some 90, op := Op.load 9 (Operand.tmp 89), type := 9, pos := "laws.go:1239", after := #[{ on := 33, ground := Ground.data }, { on := 26, ground := Ground.guard }], guard := some (26, true) }) (v := undef) rfl (by kernel_rfl) (by kernel_rfl) (by kernel_rfl) (fun _ _ _ h => h) (Or.inr ⟨by rfl, rfl⟩) (by assumption) ?_
                  try simp only [Act.put, List.setIfInBounds_toArray, List.set_cons_zero, List.set_cons_succ]
                  refine wpAnyH_take (i := 35) (oi := { dst := some 91, op := Op.binOp BinOp.eql 9 (Operand.tmp 85) (Operand.tmp 90) 9, type := 4, pos := "laws.go:1239", after := #[{ on := 29, ground := Ground.data }, { on := 34, ground := Ground.data }, { on := 26, ground := Ground.guard }], guard := some (26, true) }) (v := undef) rfl (by kernel_rfl) (by kernel_rfl) (by kernel_rfl) (fun _ _ _ h => h) (Or.inr ⟨by rfl, rfl⟩) (by assumption) ?_
                  try simp only [Act.put, List.setIfInBounds_toArray, List.set_cons_zero, List.set_cons_succ]
                  refine wpAnyH_take (i := 36) (oi := { dst := some 92, op := Op.pick (Operand.tmp 82) (Operand.tmp 91) (Operand.const (Value.bool false)), type := 4, pos := "laws.go:1239", after := #[{ on := 26, ground := Ground.data }, { on := 35, ground := Ground.data }, { on := 1, ground := Ground.guard }], guard := some (1, false) }) (v := ?_) rfl (by kernel_rfl) (by kernel_rfl) (by kernel_rfl) (fun _ _ _ h => h) (Or.inl ⟨by rfl, ?_⟩) (by assumption) ?_
                  rotate_left 1
                  · intro w hSw
                    (try dsimp only at hSw)
                    go_simp
                    try with_reducible rfl
                  try simp only [Act.put, List.setIfInBounds_toArray, List.set_cons_zero, List.set_cons_succ]
                  refine wpAnyH_take (i := 37) (oi := { dst := some 93, op := Op.pick (Operand.tmp 57) (Operand.const (Value.bool true)) (Operand.tmp 92), type := 4, pos := "laws.go:1239", after := #[{ on := 1, ground := Ground.data }, { on := 36, ground := Ground.data }], guard := none }) (v := ?_) rfl (by kernel_rfl) (by kernel_rfl) (by kernel_rfl) (fun _ _ _ h => h) (Or.inl ⟨by rfl, ?_⟩) (by assumption) ?_
                  rotate_left 1
                  · intro w hSw
                    (try dsimp only at hSw)
                    go_simp
                    try with_reducible rfl
                  try simp only [Act.put, List.setIfInBounds_toArray, List.set_cons_zero, List.set_cons_succ]
                  refine wpAnyH_take (i := 38) (oi := { dst := some 9, op := Op.assign (Operand.tmp 93), type := 4, pos := "laws.go:1239", after := #[{ on := 37, ground := Ground.data }, { on := 29, ground := Ground.chain }, { on := 0, ground := Ground.phase }, { on := 1, ground := Ground.phase }, { on := 2, ground := Ground.phase }, { on := 3, ground := Ground.phase }, { on := 4, ground := Ground.phase }, { on := 5, ground := Ground.phase }, { on := 6, ground := Ground.phase }, { on := 7, ground := Ground.phase }, { on := 8, ground := Ground.phase }, { on := 9, ground := Ground.phase }, { on := 10, ground := Ground.phase }, { on := 11, ground := Ground.phase }, { on := 12, ground := Ground.phase }, { on := 13, ground := Ground.phase }, { on := 14, ground := Ground.phase }, { on := 15, ground := Ground.phase }, { on := 16, ground := Ground.phase }, { on := 17, ground := Ground.phase }, { on := 18, ground := Ground.phase }, { on := 19, ground := Ground.phase }, { on := 20, ground := Ground.phase }, { on := 21, ground := Ground.phase }, { on := 22, ground := Ground.phase }, { on := 23, ground := Ground.phase }, { on := 24, ground := Ground.phase }, { on := 25, ground := Ground.phase }, { on := 26, ground := Ground.phase }, { on := 27, ground := Ground.phase }, { on := 28, ground := Ground.phase }, { on := 29, ground := Ground.phase }, { on := 30, ground := Ground.phase }, { on := 31, ground := Ground.phase }, { on := 32, ground := Ground.phase }, { on := 33, ground := Ground.phase }, { on := 34, ground := Ground.phase }, { on := 35, ground := Ground.phase }, { on := 36, ground := Ground.phase }, { on := 37, ground := Ground.phase }], guard := none }) (v := ?_) rfl (by kernel_rfl) (by kernel_rfl) (by kernel_rfl) (fun _ _ _ h => h) (Or.inl ⟨by rfl, ?_⟩) (by assumption) ?_
                  rotate_left 1
                  · intro w hSw
                    (try dsimp only at hSw)
                    go_simp
                    try with_reducible rfl
                  try simp only [Act.put, List.setIfInBounds_toArray, List.set_cons_zero, List.set_cons_succ]
                  refine wpAnyH_done (by kernel_rfl) ?_ _
                  go_wp2_with fail
                  go_roundw
                  case rel => exact ⟨false, k + 1, rfl, by go_num, by omega, HN.out, bf⟩
                  case measure => simp [intOf]; omega
              · obtain ⟨q0, q1, q2, q3⟩ := HRR.out wr HB.out
                obtain ⟨c0, c1, _⟩ := HC.out wr HB.out
                rw [htR] at q0
                have hte1 : (tR.toList == x.1.toList) = false := by
                  rw [beq_eq_false_iff_ne]
                  intro e
                  rw [Lib.toList_data, Lib.toList_data] at e
                  exact hte (ByteArray.ext (Array.toList_inj.1 e))
                have HN : Hid (k0 < k + 1 → false = true) := fun h => absurd (hIff.out (by omega)).1 (by rw [htR]; exact hte)
                clear hIff q1 q2 q3 c1
                go_quiet (fail)
                go_wp2_with fail
                go_roundw
                case rel => exact ⟨false, k + 1, rfl, by go_num, by omega, HN.out, by first | exact HB.out | exact below_drewZ HB.out _ | exact (below_drewZ HB.out _).drew⟩
                case measure => simp [intOf]; omega
          · obtain rfl : fb = true := hkb (by omega)
            have hkr' : ¬ (k : Int) < ((rowsI n).length : Int) := by omega
            go_wp2_with fail
            go_roundw
            case rel => exact ⟨i + 1, by go_num, by omega, HB.out⟩
            case measure => simp [intOf]; omega
      · have hig' : ¬ (i : Int) < (gs.length : Int) := by omega
        go_upto_region 23 with fail
        have tok1 : True := trivial
        have hEm : Below wr.heap.size wr (wr.alloc (.cells #[] 36)) := (Below.refl _ _).alloc (Nat.le_refl _) _
        have HEm : Hid (Below wr.heap.size wr (wr.alloc (.cells #[] 36)) ∧ (wr.alloc (.cells #[] 36)).ownsRow wr.heap.size 36 2 (.slice (some ⟨wr.heap.size, 0, none⟩) 0 0) 0 []) := ⟨hEm, emptyZ (World.alloc_heap_new wr _) (Nat.le_refl _)⟩
        clear hEm
        have HO : Hid (OwnWL w.heap.size wr (.slice (some ⟨g, 0, none⟩) gs.length Cv) ps gs ∧ Below w.heap.size w wr) := ⟨H8.out.1.below HB.out, H8.out.2.2.trans (HB.out.mono H8.out.2.2.size)⟩
        have hlp := HO.out.1.len
        have HQ : Hid ((cellsL (gs.drop 1) (ps.drop 1)).length = (gs.length - 1) * 2 ∧ (∀ u ∈ cellsL (gs.drop 1) (ps.drop 1), u.oneCell' = true) ∧ ∀ j u, (cellsL (gs.drop 1) (ps.drop 1))[j]? = some u → (wr.alloc (.cells #[] 36)).cell? ((⟨g, 1 * 2, none⟩ : Addr).add j) = some u) := by
          refine ⟨?_, cellsZ_one fun p hp => wl_one HO.out.1 p (List.mem_of_mem_drop hp), fun j u hu => ?_⟩
          · rw [cellsL_len (by rw [List.length_drop, List.length_drop, hlp]), List.length_drop]
          · have h1 := (HO.out.1.below HEm.out.1).row.cells (g := g) rfl _ u (cellsZ_dropAt hlp (by omega) hu)
            have e1 : ∀ a d, (⟨g, a, none⟩ : Addr).add d = ⟨g, a + d, none⟩ := fun a d => by unfold Addr.add; split <;> simp_all
            rw [e1] at h1 ⊢
            rw [Nat.zero_add] at h1
            exact h1
        have hCv : gs.length ≤ Cv := by
          rcases HO.out.1.row.2 with ⟨e1, _⟩ | ⟨g1, cap1, cur1, e1, _, _, h4, _⟩
          · cases e1
          · simp only [Value.slice.injEq] at e1
            omega
        have hl1I : (1 : Int) ≤ (gs.length : Int) := by omega
        have hCvI : (gs.length : Int) ≤ (Cv : Int) := by omega
        clear hlp
        by_cases hC1 : Cv = 1
        · have hnil : cellsL (gs.drop 1) (ps.drop 1) = [] := List.eq_nil_of_length_eq_zero (by rw [HQ.out.1]; omega)
          have hCt : (Cv = 1) = True := eq_true hC1
          clear hC1
          go_wp2_with (at_builtin; have _t := tok1; refine wpList_append_own _ rfl _ _ 23 rfl wr.heap.size 36 j0 (.agg #[.string ⟨#[]⟩, .slice none 0 0]) 2 40 Tryd.underlying23 hj0i hi0 hi1 hi2 rfl (by decide) _ 0 [] rfl HEm.out.2 _ (gs.length - 1) _ (cellsL (gs.drop 1) (ps.drop 1)) rfl HQ.out.1 (fun j u hu => by rw [hnil] at hu; simp at hu) HQ.out.2.1 (by unfold maxLen; omega) (by omega) (by simp) ?_; intro u' w9 hown' hgrow _; have b9 : Below wr.heap.size wr w9 := ⟨hgrow.os.trans HEm.out.1.os, hgrow.tape.trans HEm.out.1.tape, hgrow.output.trans HEm.out.1.output, Nat.le_trans HEm.out.1.size hgrow.size, fun k hk => (hgrow.block k (Nat.lt_of_lt_of_le hk HEm.out.1.size) (fun e => by have e2 := Option.some.inj (show some k = some wr.heap.size from e); omega)).trans (HEm.out.1.block k hk)⟩; have H9 : Hid (OwnWL w.heap.size w9 u' (ps.drop 1) (gs.drop 1) ∧ Below wr.heap.size wr w9) := ⟨copy_drop HO.out.1 b9 (by have := hown'; rw [Nat.zero_add, List.nil_append] at this; exact this) HO.out.2.size, b9⟩; clear tok1 hown' hgrow b9)
          have hT9 : ErrsAt w9 ∧ TablesAt w9 := ⟨HE.out.1.below (HO.out.2.trans (H9.out.2.mono HO.out.2.size)), HE.out.2.below (HO.out.2.trans (H9.out.2.mono HO.out.2.size)) rfl⟩
          have hBd : BdGs (gs.drop 1) := fun y hy => HBG.out.2 y (List.mem_of_mem_drop hy)
          have hdl : (gs.drop 1).length ≤ 1048576 := by rw [List.length_drop]; omega
          refine (tableCheck_impl n _ (gs.drop 1) _ (H9.out.1.rowG hBd hdl) (bdGs_bdG hBd hdl) (wl_cap H9.out.1) hT9.2 hT9.1).mono ?_
          rintro e w10 ⟨rfl, hb10⟩
          rw [HEa.out.2.2]
          dsimp only [tcVal]
          have H10 : Hid (Below w.heap.size w (w10.alloc (.cells #[.int .i64 0, .int .i64 0, .int .i64 4] 27))) := ((HO.out.2.trans (H9.out.2.mono HO.out.2.size)).trans (hb10.mono (Nat.le_trans HO.out.2.size H9.out.2.size))).alloc (Nat.le_trans (Nat.le_trans HO.out.2.size H9.out.2.size) hb10.size) _
          clear hT9 hBd hdl hb10
          go_wp2
          go_ret
          exact ⟨rfl, H10.out⟩
        · skip
          go_wp2_with (at_builtin; have _t := tok1; refine wpList_append_own _ rfl _ _ 23 rfl wr.heap.size 36 j0 (.agg #[.string ⟨#[]⟩, .slice none 0 0]) 2 40 Tryd.underlying23 hj0i hi0 hi1 hi2 rfl (by decide) _ 0 [] rfl HEm.out.2 _ (gs.length - 1) _ (cellsL (gs.drop 1) (ps.drop 1)) rfl HQ.out.1 HQ.out.2.2 HQ.out.2.1 (by unfold maxLen; omega) (by omega) (by simp) ?_; intro u' w9 hown' hgrow _; have b9 : Below wr.heap.size wr w9 := ⟨hgrow.os.trans HEm.out.1.os, hgrow.tape.trans HEm.out.1.tape, hgrow.output.trans HEm.out.1.output, Nat.le_trans HEm.out.1.size hgrow.size, fun k hk => (hgrow.block k (Nat.lt_of_lt_of_le hk HEm.out.1.size) (fun e => by have e2 := Option.some.inj (show some k = some wr.heap.size from e); omega)).trans (HEm.out.1.block k hk)⟩; have H9 : Hid (OwnWL w.heap.size w9 u' (ps.drop 1) (gs.drop 1) ∧ Below wr.heap.size wr w9) := ⟨copy_drop HO.out.1 b9 (by have := hown'; rw [Nat.zero_add, List.nil_append] at this; exact this) HO.out.2.size, b9⟩; clear tok1 hown' hgrow b9)
          have hT9 : ErrsAt w9 ∧ TablesAt w9 := ⟨HE.out.1.below (HO.out.2.trans (H9.out.2.mono HO.out.2.size)), HE.out.2.below (HO.out.2.trans (H9.out.2.mono HO.out.2.size)) rfl⟩
          have hBd : BdGs (gs.drop 1) := fun y hy => HBG.out.2 y (List.mem_of_mem_drop hy)
          have hdl : (gs.drop 1).length ≤ 1048576 := by rw [List.length_drop]; omega
          refine (tableCheck_impl n _ (gs.drop 1) _ (H9.out.1.rowG hBd hdl) (bdGs_bdG hBd hdl) (wl_cap H9.out.1) hT9.2 hT9.1).mono ?_
          rintro e w10 ⟨rfl, hb10⟩
          rw [HEa.out.2.2]
          dsimp only [tcVal]
          have H10 : Hid (Below w.heap.size w (w10.alloc (.cells #[.int .i64 0, .int .i64 0, .int .i64 4] 27))) := ((HO.out.2.trans (H9.out.2.mono HO.out.2.size)).trans (hb10.mono (Nat.le_trans HO.out.2.size H9.out.2.size))).alloc (Nat.le_trans (Nat.le_trans HO.out.2.size H9.out.2.size) hb10.size) _
          clear hT9 hBd hdl hb10
          go_wp2
          go_ret
          exact ⟨rfl, H10.out⟩
theorem own : ownKnob Tryd.prog.godebug = none := by kernel_rfl
theorem laidOut : laidOutB Tryd.prog = true := by kernel_rfl
set_option maxRecDepth 100000 in
theorem lifted (os : Os) (started : os.Started) (H : Type) (enc : TypeId × Value → H) :
    ReturnsInHanded {} Tryd.checked os 3 .any (fun w args => (Rows.fnTablesSpec.pre enc Tryd.prog Tryd.f3 [] false w args ∧ laidMetH Tryd.prog Rows.fnTablesRow.laid w) ∧ sizedMet enc Tryd.prog Tryd.f3 (OpenSpec.ofChange Rows.fnTablesSpec) false w args)
      (Rows.fnTablesSpec.post enc Tryd.prog Tryd.f3 false true false false) := by
  refine returnsInHanded_of_change_and (C := Tryd.checked) (X := fun w _ => laidMetH Tryd.prog Rows.fnTablesRow.laid w) (fun _ _ _ hh h => h.of_heap hh) own started (by kernel_rfl) Tryd.func3
    (ChangeSpec.witness_shaped (enc := enc) (C := Tryd.checked) (os := os) (X := fun w _ => laidMetH Tryd.prog Rows.fnTablesRow.laid w) false (World.laidAll Tryd.prog os Rows.fnTablesRow.laid) #[.slice none 0 0] 8 (World.laidAll_os _ _ _) (World.shaped_of_ZipB (by kernel_rfl) (by kernel_rfl)) (by kernel_rfl) (by kernel_rfl) (by kernel_rfl) (by rw [MakeChecks.laidMetH_plain _ _ _ (by kernel_rfl)]; exact laidMet_laidAll _ (by kernel_rfl) (by kernel_rfl))) ?_
  intro W base args ds gs before hval0 hW hcnd _ hL _
  have hval : ∀ (j : Nat) t v, Tryd.f3.params[j]? = some t → args[j]? = some v → Value.okWide Tryd.prog W .any base t v := hval0
  have hW' := hW
  obtain ⟨p, q, hA0, hV, rfl, hfz, hnd⟩ := hW
  have hA : DataW.TrodAll enc Tryd.prog W 0 (fun _ => true) true Tryd.f3.params.toList args.toList ds p := hA0
  rw [Tryd.params3] at hA hval
  obtain ⟨v0, vs0, d0, ds0, p0, q0, hargs, rfl, rfl, h0, r0⟩ := trodAll_cons hA
  obtain ⟨rfl, rfl, rfl⟩ := trodAll_nil r0
  obtain rfl : args = #[v0] := by cases args; simp_all
  obtain ⟨_, _, _, _, gd, _, rfl, _⟩ := trodVars_one hV
  have k0 := h0
  have lt0 : ∀ x ∈ p0, x.block < W.heap.size := by obtain ⟨m, hm⟩ := k0; exact DataW.trod_lt m _ _ _ hm
  obtain ⟨a0, len0, cap0, rfl⟩ := okWide_slice Tryd.underlying22 (hval 0 22 v0 rfl rfl)
  obtain ⟨z0, w0⟩ : ∃ zs, IsRow .u8 W a0 len0 cap0 zs := by
    obtain ⟨fuel, hf⟩ := h0
    rcases open_ints Tryd.underlying22 Tryd.underlying5 (by kernel_rfl) hf with ⟨hcs, _⟩ | ⟨x, l, c, zs, hcs, _, hl, hm, hz, _, hcell, hwz⟩
    · simp [Value.cells] at hcs
      obtain ⟨rfl, rfl, rfl⟩ := hcs
      exact ⟨[], .inl ⟨rfl, rfl, rfl, rfl⟩⟩
    · simp [Value.cells] at hcs
      obtain ⟨rfl, rfl, rfl⟩ := hcs
      exact ⟨zs, .inr ⟨_, rfl, hl, hm, by simpa using hz, hcell, hwz⟩⟩
  clear hA0 hval0
  refine (walk a0 len0 cap0 z0 W w0 hL).mono fun e W' ⟨he, bel⟩ => ?_
  subst he
  exact ⟨_, rfl, _, _, _, [], _, _, hW', trodAll_mk1 (shut_bool Tryd.underlying4 _), (trodAll_cons_mk (Below.trod laidOut (by kernel_rfl) (of_decide_eq_true (by kernel_rfl)) k0 bel lt0) trodAll_mk0), Below.trodVars laidOut bel (by kernel_rfl) hV, bel.frame _, fun h => by cases h⟩
theorem over : Rows.fnTablesRow.holds Tryd.pinned (OpenSpec.ofChange Rows.fnTablesSpec) :=
  OpenClaim.holds_of_wide 3 Tryd.f3 rfl rfl rfl rfl rfl rfl rfl ⟨rfl, rfl, rfl, rfl, rfl⟩ rfl rfl rfl rfl rfl (by kernel_rfl) Tryd.func3 (by kernel_rfl)
    (of_decide_eq_true (by kernel_rfl)) (by unfold Func.isWrapper; first | (rw [if_pos (by decide +kernel)]; kernel_rfl) | (rw [if_neg (by decide +kernel)]; exact ⟨rfl, rfl⟩))
    (fun os started H enc _ => lifted os started H enc)
theorem card : Rows.FnTablesCardSaid :=
  Claim7.holds_tied_plain_at .later [] [.data, .data, .data, .data, .sentinel, .sentinel, .widerDeep, .pinned] true (true, "bc73fe7a88b420256d80ce594e04ee52ba6cb3285864e5ca89747ea0b1faf263") true
    over (fun _ h => by cases h) (by kernel_rfl) (fun _ h => by cases h) fnTables_row_tie rfl ⟨rfl, rfl⟩ (by kernel_rfl) rfl
    (fun f fn hf hfn => by
      obtain rfl : f = 3 := Option.some.inj ((show Tryd.prog.funcNamed "loop.example/g00096/laws.FnTables" = some 3 by kernel_rfl).symm.trans hf) |>.symm
      obtain rfl : fn = Tryd.f3 := (Option.some.inj (Tryd.func3.symm.trans hfn)).symm
      exact ⟨by kernel_rfl, fun j t ht => by
        rw [Tryd.params3] at ht
        have hj : Tryd.prog.wantsStandIn t = false := by
          rcases j with _ | j
          · have e : t = 22 := by simpa using ht.symm
            subst e
            exact (show Tryd.prog.wantsStandIn 22 = false by kernel_rfl)
          simp at ht
        exact hj⟩)
    (by kernel_rfl)
end fnTables
theorem fnTables_holds : Rows.FnTablesCardSaid := fnTables.card
#print axioms fnTables_holds
end Go.Proofs.YtphgheojfnlgjaaDoor
