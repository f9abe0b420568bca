/- TableOf: impl's and the model's tell the rows of a kind from 1 to 7, else none, in a list of the call's own; eqRowS tells true of two lists of the same rows. -/
import Derived.Test.YtphgheojfnlgjaaDoorKindN
import Derived.Test.YtphgheojfnlgjaaDoorTabOwn
import Derived.Test.YtphgheojfnlgjaaDoorKeep
import Derived.Lib.SmallJoins
import Derived.Shelf.Slices.Clone
import Derived.Deep.QuietTactic
import Derived.BigQuiet
namespace Go.Proofs.YtphgheojfnlgjaaDoor
open Go.ChangeShapes Go.WideShapes Go.ChangeAt Go.RowKit Go.Shelf
theorem infoRow : (Tryd.prog.info? 33).map (fun i => (i.zero, i.size, i.bytes)) = some (some (.agg #[.string ⟨#[]⟩, .int .i64 0, .int .i64 0, .string ⟨#[]⟩]), 4, 48) := by kernel_rfl
set_option maxHeartbeats 1000000 in
theorem cloneRow_any (b off cap : Nat) (rs : List TRow) (w : World) (hl : rs.length ≤ 1000) (hR : RowsAt w b off rs) :
    Calls Tryd.prog 19 #[.slice (some ⟨b, off, none⟩) rs.length cap] w fun e w' => ∃ v, e = .returned v ∧ OwnT w.heap.size w' v rs ∧ Below w.heap.size w w' := by
  obtain ⟨i0, hi, hz0, hz1, hz2⟩ := info_parts infoRow
  have q : ∀ (w : World) (a : Option Addr) (n c n' c' : Nat), (binOp .eql 29 (.slice a n c) (.slice none n' c')).run Tryd.prog w = .ok (.bool a.isNone) w := fun w a n c n' c' => Lib.run_eql_slice_nil w _ _ a n c n' c' Tryd.underlying29
  have A : Aside (RowsAt w b off rs) := hR
  clear hR
  go_enter Tryd.func19, Tryd.ntmps19
  go_wp2_with (at_builtin; refine wpList_append_own _ rfl _ _ 29 rfl w.heap.size 33 i0 (.agg #[.string ⟨#[]⟩, .int .i64 0, .int .i64 0, .string ⟨#[]⟩]) 4 48 Tryd.underlying29 hi hz0 hz1 hz2 rfl (by decide) _ _ _ rfl (World.ownsRow_made w #[] 0 (Nat.le_refl _) (Nat.zero_le _) rfl) ⟨b, off, none⟩ rs.length cap (rowsC rs) rfl ?qc1 ?qc2 ?qc3 ?qc4 ?qc5 ?qc6 ?_)
  case qc1 => exact rowsC_len rs
  case qc2 =>
    intro j u hj
    have hj4 : j < rs.length * 4 := by
      have := (List.getElem?_eq_some_iff.1 hj).1
      rwa [rowsC_len] at this
    have hr : rs[j / 4]? = some (rs[j / 4]'(by omega)) := List.getElem?_eq_getElem (by omega)
    have e := rowsC_at rs (j / 4) _ (j % 4) hr (by omega)
    rw [show j / 4 * 4 + j % 4 = j by omega, hj] at e
    obtain ⟨r0, r1, r2, r3⟩ := A.out (j / 4) _ hr
    rw [Addr.add_lit]
    refine Lib.cell?_alloc_some _ ?_
    rw [e]
    have hm : j % 4 = 0 ∨ j % 4 = 1 ∨ j % 4 = 2 ∨ j % 4 = 3 := by omega
    rcases hm with hm | hm | hm | hm <;> rw [hm]
    · rw [show off + j = off + j / 4 * 4 by omega]; exact r0
    · rw [show off + j = off + j / 4 * 4 + 1 by omega]; exact r1
    · rw [show off + j = off + j / 4 * 4 + 2 by omega]; exact r2
    · rw [show off + j = off + j / 4 * 4 + 3 by omega]; exact r3
  case qc3 =>
    intro u hu
    obtain ⟨r, _, hu⟩ := List.mem_flatMap.1 hu
    simp only [TRow.cells, List.mem_cons, List.not_mem_nil, or_false] at hu
    rcases hu with rfl | rfl | rfl | rfl <;> rfl
  case qc4 => unfold maxLen; omega
  case qc5 => omega
  case qc6 => simp
  intro v' w1 hown hgrow hnil
  go_wp2
  go_ret
  refine ⟨v', rfl, by simpa [OwnT] using hown, ?_⟩
  exact ((Below.refl _ w).alloc (Nat.le_refl _) _).grown hgrow (by simp) (by intro k hk; simp [Value.ownBlock] at hk; omega)
set_option maxHeartbeats 1000000 in
theorem tableOf_impl (n : Int) (w : World) (hT : TablesAt w) :
    Calls Tryd.prog 7 #[.int .i64 n] w fun e w' => ∃ v, e = .returned v ∧ OwnT w.heap.size w' v (rowsI n) ∧ Below w.heap.size w w' := by
  by_cases hk : 1 ≤ n ∧ n ≤ 7
  · have hB : kindB n = true := by simp [kindB, hk]
    have hlen := rowsI_len n
    obtain ⟨k, rfl⟩ : ∃ k : Nat, n = k := ⟨n.toNat, by omega⟩
    obtain ⟨_, b, off, cap, c1, hc1, hc2, hb, hR⟩ := hT k (by omega) (by omega)
    have e : rowsI k = rowsK k := by simp [rowsI, hk]
    rw [e] at hlen ⊢
    have hk7 : k ≤ 7 := by omega
    have hk1 : 1 ≤ k := by omega
    have A : Hid (RowsAt w b off (rowsK k)) := hR
    clear hT hR e
    go_enter Tryd.func7, Tryd.ntmps7
    go_wp2_with (first
      | (go_at_call 17; refine (isKind_any _ _).mono ?_; rintro e w1 ⟨rfl, rfl⟩; rw [hB]; try dsimp only)
      | (go_at_call 19; refine (cloneRow_any b off cap (rowsK k) _ (by omega) A.out).mono ?_; rintro e w2 ⟨v, rfl, hO, bel⟩; try dsimp only))
    go_ret
    exact ⟨v, rfl, hO, bel⟩
  · have hB : kindB n = false := by simp [kindB]; omega
    have e : rowsI n = [] := by simp [rowsI, hk]
    rw [e]
    go_enter Tryd.func7, Tryd.ntmps7
    go_wp2_with (go_at_call 17; refine (isKind_any _ _).mono ?_; rintro e w1 ⟨rfl, rfl⟩; rw [hB]; try dsimp only)
    go_ret
    exact ⟨_, rfl, ⟨rfl, .inl ⟨rfl, rfl⟩⟩, Below.refl _ _⟩
def tagT (n at_ : Int) : ByteArray := if at_ < 0 then bs [] else ((rowsI n)[at_.toNat]?.map (fun r => bs r.tag)).getD (bs [])
theorem tagT_neg (n : Int) {a : Int} (h : a < 0) : tagT n a = bs [] := by simp [tagT, h]
theorem tagT_at {n : Int} {k : Nat} {r : TRow} (h : (rowsI n)[k]? = some r) : tagT n k = bs r.tag := by
  unfold tagT
  rw [if_neg (by omega), Int.toNat_natCast, h]
  rfl
theorem tagT_none {n : Int} {k : Nat} (h : (rowsI n).length ≤ k) : tagT n k = bs [] := by
  unfold tagT
  rw [if_neg (by omega), Int.toNat_natCast, List.getElem?_eq_none h]
  rfl
set_option maxHeartbeats 1000000 in
theorem tagOf_impl (n at_ : Int) (w : World) (hT : TablesAt w) :
    Calls Tryd.prog 10 #[.int .i64 n, .int .i64 at_] w fun e w' => e = .returned (.string (tagT n at_)) ∧ Below w.heap.size w w' := by
  have hlen := rowsI_len n
  go_enter Tryd.func10, Tryd.ntmps10
  go_wp2_with fail
  refine (tableOf_impl n w hT).mono ?_
  rintro e w1 ⟨v, rfl, hO, bel⟩
  obtain ⟨A, C, rfl, hA⟩ := hO.sl
  by_cases h0 : at_ < 0
  · have ht := tagT_neg n h0
    go_wp2
    go_ret
    exact ⟨ret_str ht.symm, bel⟩
  · obtain ⟨k, rfl⟩ : ∃ k : Nat, at_ = k := ⟨at_.toNat, by omega⟩
    have h0' : (0 : Int) ≤ (k : Int) := by omega
    by_cases hk : k < (rowsI n).length
    · obtain ⟨b, off, rfl, hR⟩ := hA (by omega)
      have hr := List.getElem?_eq_getElem hk
      have c0 := (hR k _ hr).1
      have ht := tagT_at hr
      have hk' : (k : Int) < ((rowsI n).length : Int) := by omega
      clear hA hR
      go_wp2
      go_ret
      exact ⟨ret_str ht.symm, bel⟩
    · have ht := tagT_none (n := n) (k := k) (by omega)
      have hk' : ((rowsI n).length : Int) ≤ (k : Int) := by omega
      go_wp2
      go_ret
      exact ⟨ret_str ht.symm, bel⟩
end Go.Proofs.YtphgheojfnlgjaaDoor
