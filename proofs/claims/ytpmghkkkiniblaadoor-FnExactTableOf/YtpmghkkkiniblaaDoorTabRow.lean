/- TableOf: impl's and the model's tell the rows of a kind from 1 to 7, else none, in a list of the call's own; eqRowS tells true of two lists of the same rows. -/
import Derived.Test.YtpmghkkkiniblaaDoorKindN
import Derived.Test.YtpmghkkkiniblaaDoorKeep
import Derived.Lib.SmallJoins
import Derived.Shelf.Slices.Clone
import Derived.Deep.QuietTactic
import Derived.BigQuiet
namespace Go.Proofs.YtpmghkkkiniblaaDoor
open Go.ChangeShapes Go.WideShapes Go.ChangeAt Go.RowKit Go.Shelf
def TRow.cells (r : TRow) : List Value := [.string (bs r.tag), .int .i64 r.least, .int .i64 r.most, .string (bs r.form)]
def rowsC (rs : List TRow) : List Value := rs.flatMap TRow.cells
def rowsI (n : Int) : List TRow := if 1 ≤ n ∧ n ≤ 7 then rowsK n.toNat else []
theorem rowsI_len (n : Int) : (rowsI n).length ≤ 3 := by
  unfold rowsI
  split
  · obtain rfl | rfl | rfl | rfl | rfl | rfl | rfl : n = 1 ∨ n = 2 ∨ n = 3 ∨ n = 4 ∨ n = 5 ∨ n = 6 ∨ n = 7 := by omega
    all_goals decide
  · decide
theorem rowsC_len (rs : List TRow) : (rowsC rs).length = rs.length * 4 := by
  induction rs with
  | nil => rfl
  | cons r rs ih => simp only [rowsC, List.flatMap_cons, List.length_append, List.length_cons] at ih ⊢; rw [ih]; simp [TRow.cells]; omega
theorem rowsC_at (rs : List TRow) : ∀ (i : Nat) (r : TRow) (c : Nat), rs[i]? = some r → c < 4 → (rowsC rs)[i * 4 + c]? = r.cells[c]? := by
  induction rs with
  | nil => intro i r c h; simp at h
  | cons x rs ih =>
    intro i r c h hc
    have hx : x.cells.length = 4 := rfl
    cases i with
    | zero =>
      simp only [List.getElem?_cons_zero, Option.some.injEq] at h
      subst h
      simp only [rowsC, List.flatMap_cons]
      rw [List.getElem?_append_left (by omega)]
      simp
    | succ i =>
      simp only [List.getElem?_cons_succ] at h
      simp only [rowsC, List.flatMap_cons]
      rw [List.getElem?_append_right (by omega), hx]
      have := ih i r c h hc
      rw [← this]
      unfold rowsC
      congr 1
      omega
/-- Rows in a list of the call's own. -/
def OwnT (n0 : Nat) (w : World) (v : Value) (rs : List TRow) : Prop := w.ownsRow n0 31 4 v rs.length (rowsC rs)
/-- Rows in a list. -/
def SlT (w : World) (v : Value) (rs : List TRow) : Prop := ∃ A C, v = .slice A rs.length C ∧ (0 < rs.length → ∃ b off, A = some ⟨b, off, none⟩ ∧ RowsAt w b off rs)
theorem OwnT.sl {n0 : Nat} {w : World} {v : Value} {rs : List TRow} (h : OwnT n0 w v rs) : SlT w v rs := by
  rcases h.2 with ⟨rfl, e⟩ | ⟨g, cap, cur, rfl, hb, hgb, _, _, _, htk⟩
  · exact ⟨none, 0, by rw [e], fun h => by omega⟩
  · refine ⟨_, cap, rfl, fun _ => ⟨g, 0, rfl, fun i r hr => ?_⟩⟩
    have hi : i < rs.length := (List.getElem?_eq_some_iff.1 hr).1
    have key : ∀ c, c < 4 → w.cell? ⟨g, 0 + i * 4 + c, none⟩ = r.cells[c]? := by
      intro c hc
      have h1 : (cur.toList.take (rs.length * 4))[i * 4 + c]? = (rowsC rs)[i * 4 + c]? := by rw [htk]
      rw [List.getElem?_take_of_lt (by omega), rowsC_at rs i r c hr hc] at h1
      rw [← h1]
      simp [World.cell?, hgb]
    exact ⟨key 0 (by omega), key 1 (by omega), key 2 (by omega), key 3 (by omega)⟩
theorem SlT.below {w w' : World} {v : Value} {rs : List TRow} (h : SlT w v rs) (hb : Below w.heap.size w w') : SlT w' v rs := by
  obtain ⟨A, C, e, h⟩ := h
  refine ⟨A, C, e, fun h0 => ?_⟩
  obtain ⟨b, off, e1, hR⟩ := h h0
  refine ⟨b, off, e1, fun i r hr => ?_⟩
  obtain ⟨r0, r1, r2, r3⟩ := hR i r hr
  exact ⟨(hb.cell (World.block_lt_of_cell? _ _ r0)).trans r0, (hb.cell (World.block_lt_of_cell? _ _ r1)).trans r1, (hb.cell (World.block_lt_of_cell? _ _ r2)).trans r2, (hb.cell (World.block_lt_of_cell? _ _ r3)).trans r3⟩
theorem infoRow : (Tryd.prog.info? 31).map (fun i => (i.zero, i.size, i.bytes)) = some (some (.agg #[.string ⟨#[]⟩, .int .i64 0, .int .i64 0, .string ⟨#[]⟩]), 4, 48) := by kernel_rfl
set_option maxHeartbeats 1000000 in
theorem cloneRow_any (b off cap : Nat) (rs : List TRow) (w : World) (hl : rs.length ≤ 1000) (hR : RowsAt w b off rs) :
    Calls Tryd.prog 16 #[.slice (some ⟨b, off, none⟩) rs.length cap] w fun e w' => ∃ v, e = .returned v ∧ OwnT w.heap.size w' v rs ∧ Below w.heap.size w w' := by
  obtain ⟨i0, hi, hz0, hz1, hz2⟩ := info_parts infoRow
  have q : ∀ (w : World) (a : Option Addr) (n c n' c' : Nat), (binOp .eql 22 (.slice a n c) (.slice none n' c')).run Tryd.prog w = .ok (.bool a.isNone) w := fun w a n c n' c' => Lib.run_eql_slice_nil w _ _ a n c n' c' Tryd.underlying22
  have A : Aside (RowsAt w b off rs) := hR
  clear hR
  go_enter Tryd.func16, Tryd.ntmps16
  go_wp2_with (at_builtin; refine wpList_append_own _ rfl _ _ 22 rfl w.heap.size 31 i0 (.agg #[.string ⟨#[]⟩, .int .i64 0, .int .i64 0, .string ⟨#[]⟩]) 4 48 Tryd.underlying22 hi hz0 hz1 hz2 rfl (by decide) _ _ _ rfl (World.ownsRow_made w #[] 0 (Nat.le_refl _) (Nat.zero_le _) rfl) ⟨b, off, none⟩ rs.length cap (rowsC rs) rfl ?qc1 ?qc2 ?qc3 ?qc4 ?qc5 ?qc6 ?_)
  case qc1 => exact rowsC_len rs
  case qc2 =>
    intro j u hj
    have hj4 : j < rs.length * 4 := by
      have := (List.getElem?_eq_some_iff.1 hj).1
      rwa [rowsC_len] at this
    have hr : rs[j / 4]? = some (rs[j / 4]'(by omega)) := List.getElem?_eq_getElem (by omega)
    have e := rowsC_at rs (j / 4) _ (j % 4) hr (by omega)
    rw [show j / 4 * 4 + j % 4 = j by omega, hj] at e
    obtain ⟨r0, r1, r2, r3⟩ := A.out (j / 4) _ hr
    rw [Addr.add_lit]
    refine Lib.cell?_alloc_some _ ?_
    rw [e]
    have hm : j % 4 = 0 ∨ j % 4 = 1 ∨ j % 4 = 2 ∨ j % 4 = 3 := by omega
    rcases hm with hm | hm | hm | hm <;> rw [hm]
    · rw [show off + j = off + j / 4 * 4 by omega]; exact r0
    · rw [show off + j = off + j / 4 * 4 + 1 by omega]; exact r1
    · rw [show off + j = off + j / 4 * 4 + 2 by omega]; exact r2
    · rw [show off + j = off + j / 4 * 4 + 3 by omega]; exact r3
  case qc3 =>
    intro u hu
    obtain ⟨r, _, hu⟩ := List.mem_flatMap.1 hu
    simp only [TRow.cells, List.mem_cons, List.not_mem_nil, or_false] at hu
    rcases hu with rfl | rfl | rfl | rfl <;> rfl
  case qc4 => unfold maxLen; omega
  case qc5 => omega
  case qc6 => simp
  intro v' w1 hown hgrow hnil
  go_wp2
  go_ret
  refine ⟨v', rfl, by simpa [OwnT] using hown, ?_⟩
  exact ((Below.refl _ w).alloc (Nat.le_refl _) _).grown hgrow (by simp) (by intro k hk; simp [Value.ownBlock] at hk; omega)
set_option maxHeartbeats 1000000 in
theorem tableOf_impl (n : Int) (w : World) (hT : TablesAt w) :
    Calls Tryd.prog 7 #[.int .i64 n] w fun e w' => ∃ v, e = .returned v ∧ OwnT w.heap.size w' v (rowsI n) ∧ Below w.heap.size w w' := by
  by_cases hk : 1 ≤ n ∧ n ≤ 7
  · have hB : kindB n = true := by simp [kindB, hk]
    have hlen := rowsI_len n
    obtain ⟨k, rfl⟩ : ∃ k : Nat, n = k := ⟨n.toNat, by omega⟩
    obtain ⟨_, b, off, cap, c1, hc1, hc2, hb, hR⟩ := hT k (by omega) (by omega)
    have e : rowsI k = rowsK k := by simp [rowsI, hk]
    rw [e] at hlen ⊢
    have hk7 : k ≤ 7 := by omega
    have hk1 : 1 ≤ k := by omega
    have A : Hid (RowsAt w b off (rowsK k)) := hR
    clear hT hR e
    go_enter Tryd.func7, Tryd.ntmps7
    go_wp2_with (first
      | (go_at_call 15; refine (isKind_any _ _).mono ?_; rintro e w1 ⟨rfl, rfl⟩; rw [hB]; try dsimp only)
      | (go_at_call 16; refine (cloneRow_any b off cap (rowsK k) _ (by omega) A.out).mono ?_; rintro e w2 ⟨v, rfl, hO, bel⟩; try dsimp only))
    go_ret
    exact ⟨v, rfl, hO, bel⟩
  · have hB : kindB n = false := by simp [kindB]; omega
    have e : rowsI n = [] := by simp [rowsI, hk]
    rw [e]
    go_enter Tryd.func7, Tryd.ntmps7
    go_wp2_with (go_at_call 15; refine (isKind_any _ _).mono ?_; rintro e w1 ⟨rfl, rfl⟩; rw [hB]; try dsimp only)
    go_ret
    exact ⟨_, rfl, ⟨rfl, .inl ⟨rfl, rfl⟩⟩, Below.refl _ _⟩
theorem bel3 (w : World) (o1 o2 o3 o4 : Obj) : Below w.heap.size w ((((w.alloc o1).alloc o2).alloc o3).alloc o4) :=
  ((((Below.refl _ w).alloc (Nat.le_refl _) _).alloc (by simp) _).alloc (by simp; omega) _).alloc (by simp; omega) _
theorem own3 (w : World) (o1 o2 o3 : Obj) (c : Array Value) (n : Nat) (rs : List TRow) (hn : rs.length = n) (hc : c.toList = rowsC rs) (hm : n ≤ 1000) :
    OwnT w.heap.size ((((w.alloc o1).alloc o2).alloc o3).alloc (.cells c 31)) (.slice (some ⟨w.heap.size + 1 + 1 + 1, 0, none⟩) n n) rs := by
  subst hn
  refine ⟨rowsC_len rs, .inr ⟨_, rs.length, c, rfl, by omega, ?_, Nat.le_refl _, by unfold maxLen; omega, ?_, ?_⟩⟩
  · have := (MapKept.heap_alloc (((w.alloc o1).alloc o2).alloc o3) (.cells c 31)).1
    simpa using this
  · rw [← rowsC_len, ← hc]; simp
  · rw [← hc, ← rowsC_len, ← hc]; exact List.take_length
set_option maxHeartbeats 4000000 in
theorem tableOf_spec (n : Int) (w : World) :
    Calls Tryd.prog 6 #[.int .i64 n] w fun e w' => ∃ v, e = .returned v ∧ OwnT w.heap.size w' v (rowsI n) ∧ Below w.heap.size w w' := by
  by_cases hk : 1 ≤ n ∧ n ≤ 7
  · obtain rfl | rfl | rfl | rfl | rfl | rfl | rfl : n = 1 ∨ n = 2 ∨ n = 3 ∨ n = 4 ∨ n = 5 ∨ n = 6 ∨ n = 7 := by omega
    all_goals
      go_enter Tryd.func6, Tryd.ntmps6
      go_wp2
      go_ret
      exact ⟨_, rfl, own3 w _ _ _ _ _ _ (by kernel_rfl) (by kernel_rfl) (by omega), bel3 w _ _ _ _⟩
  · have e : rowsI n = [] := by simp [rowsI, hk]
    have h1 : (n == 1) = false := by simp; omega
    have h2 : (n == 2) = false := by simp; omega
    have h3 : (n == 3) = false := by simp; omega
    have h4 : (n == 4) = false := by simp; omega
    have h5 : (n == 5) = false := by simp; omega
    have h6 : (n == 6) = false := by simp; omega
    have h7 : (n == 7) = false := by simp; omega
    rw [e]
    go_enter Tryd.func6, Tryd.ntmps6
    go_wp2
    go_ret
    exact ⟨_, rfl, own3 w _ _ _ _ _ _ rfl rfl (by omega), bel3 w _ _ _ _⟩
set_option maxHeartbeats 400000 in
theorem eqRow_same (r : TRow) (w : World) : Calls Tryd.prog 17 #[.agg #[.string (bs r.tag), .int .i64 r.least, .int .i64 r.most, .string (bs r.form)], .agg #[.string (bs r.tag), .int .i64 r.least, .int .i64 r.most, .string (bs r.form)]] w fun e w' => e = .returned (.bool true) ∧ Below w.heap.size w w' := by
  go_enter Tryd.func17, Tryd.ntmps17
  go_wp2
  go_ret
  exact ⟨rfl, ((Below.refl _ w).alloc (Nat.le_refl _) _).alloc (by simp) _⟩
def tagT (n at_ : Int) : ByteArray := if at_ < 0 then bs [] else ((rowsI n)[at_.toNat]?.map (fun r => bs r.tag)).getD (bs [])
theorem tagT_neg (n : Int) {a : Int} (h : a < 0) : tagT n a = bs [] := by simp [tagT, h]
theorem tagT_at {n : Int} {k : Nat} {r : TRow} (h : (rowsI n)[k]? = some r) : tagT n k = bs r.tag := by
  unfold tagT
  rw [if_neg (by omega), Int.toNat_natCast, h]
  rfl
theorem tagT_none {n : Int} {k : Nat} (h : (rowsI n).length ≤ k) : tagT n k = bs [] := by
  unfold tagT
  rw [if_neg (by omega), Int.toNat_natCast, List.getElem?_eq_none h]
  rfl
set_option maxHeartbeats 1000000 in
theorem tagOf_impl (n at_ : Int) (w : World) (hT : TablesAt w) :
    Calls Tryd.prog 14 #[.int .i64 n, .int .i64 at_] w fun e w' => e = .returned (.string (tagT n at_)) ∧ Below w.heap.size w w' := by
  have hlen := rowsI_len n
  go_enter Tryd.func14, Tryd.ntmps14
  go_wp2_with fail
  refine (tableOf_impl n w hT).mono ?_
  rintro e w1 ⟨v, rfl, hO, bel⟩
  obtain ⟨A, C, rfl, hA⟩ := hO.sl
  by_cases h0 : at_ < 0
  · have ht := tagT_neg n h0
    go_wp2
    go_ret
    exact ⟨ret_str ht.symm, bel⟩
  · obtain ⟨k, rfl⟩ : ∃ k : Nat, at_ = k := ⟨at_.toNat, by omega⟩
    have h0' : (0 : Int) ≤ (k : Int) := by omega
    by_cases hk : k < (rowsI n).length
    · obtain ⟨b, off, rfl, hR⟩ := hA (by omega)
      have hr := List.getElem?_eq_getElem hk
      have c0 := (hR k _ hr).1
      have ht := tagT_at hr
      have hk' : (k : Int) < ((rowsI n).length : Int) := by omega
      clear hA hR
      go_wp2
      go_ret
      exact ⟨ret_str ht.symm, bel⟩
    · have ht := tagT_none (n := n) (k := k) (by omega)
      have hk' : ((rowsI n).length : Int) ≤ (k : Int) := by omega
      go_wp2
      go_ret
      exact ⟨ret_str ht.symm, bel⟩
set_option maxHeartbeats 1000000 in
theorem tagOf_spec (n at_ : Int) (w : World) :
    Calls Tryd.prog 13 #[.int .i64 n, .int .i64 at_] w fun e w' => e = .returned (.string (tagT n at_)) ∧ Below w.heap.size w w' := by
  have hlen := rowsI_len n
  go_enter Tryd.func13, Tryd.ntmps13
  go_wp2_with fail
  refine (tableOf_spec n w).mono ?_
  rintro e w1 ⟨v, rfl, hO, bel⟩
  obtain ⟨A, C, rfl, hA⟩ := hO.sl
  by_cases h0 : at_ < 0
  · have ht := tagT_neg n h0
    go_wp2
    go_ret
    exact ⟨ret_str ht.symm, bel⟩
  · obtain ⟨k, rfl⟩ : ∃ k : Nat, at_ = k := ⟨at_.toNat, by omega⟩
    have h0' : (0 : Int) ≤ (k : Int) := by omega
    by_cases hk : k < (rowsI n).length
    · obtain ⟨b, off, rfl, hR⟩ := hA (by omega)
      have hr := List.getElem?_eq_getElem hk
      have c0 := (hR k _ hr).1
      have ht := tagT_at hr
      have hk' : (k : Int) < ((rowsI n).length : Int) := by omega
      clear hA hR
      go_wp2
      go_ret
      exact ⟨ret_str ht.symm, bel⟩
    · have ht := tagT_none (n := n) (k := k) (by omega)
      have hk' : ((rowsI n).length : Int) ≤ (k : Int) := by omega
      go_wp2
      go_ret
      exact ⟨ret_str ht.symm, bel⟩
end Go.Proofs.YtpmghkkkiniblaaDoor
