/- Texts of ours put together: OuB. -/
import Derived.Test.YtiakkpglnijapaaG15
import Derived.Deep.RegionLaw
import Derived.Laws.Externs
namespace Go.Proofs.Ytiakkpglnijapaa
open Go.ChangeShapes Go.WideShapes Go.ChangeAt Go.RowKit
set_option linter.unusedVariables false
theorem cellsOf {w : World} {g : Nat} {cur : Array Value} {rs : List OutR} (hg : w.heap[g]? = some (.cells cur 25)) (ht : cur.toList.take (rs.length * 5) = clOus rs) : ∀ j v, (clOus rs)[j]? = some v → w.cell? ⟨g, j, none⟩ = some v := fun j v hj => by
  rw [← ht, List.getElem?_take] at hj
  split at hj
  · rw [Array.getElem?_toList] at hj
    simp [World.cell?, hg, hj]
  · cases hj
theorem below_row {B g : Nat} {w0 w : World} (hb : Below B w0 w) (hBg : B ≤ g) (cs : Array Value) : Below B w0 (w.setRow g cs) :=
  hb.trans ⟨rfl, rfl, rfl, by simp [World.setRow], fun k hk => setRow_other w g k cs (by omega)⟩
theorem insT_sizes {rs : List OutR} {l : OutR} {i : Nat} (hsz : ∀ x, x = l ∨ x ∈ rs → x.partner.size ≤ 9223372036854775807 ∧ x.text.size ≤ 9223372036854775807) : ∀ (j : Nat) (x : OutR), (insT rs i l)[j]? = some x → x.partner.size ≤ 9223372036854775807 ∧ x.text.size ≤ 9223372036854775807 := fun j x hx => hsz x (insT_mem (List.mem_of_getElem? hx))
theorem lists_shift {cur X E : List Value} {n i : Nat} (hX : cur.take (n * 5) = X) (hXl : X.length = n * 5) (hE : E.length = 5) (hi : i < n) (hl : (n + 1) * 5 ≤ cur.length) :
    ((((cur.take ((i + 1) * 5) ++ X.drop (i * 5) ++ cur.drop ((i + 1) * 5 + (X.drop (i * 5)).length)).take (i * 5) ++ E ++ (cur.take ((i + 1) * 5) ++ X.drop (i * 5) ++ cur.drop ((i + 1) * 5 + (X.drop (i * 5)).length)).drop (i * 5 + E.length)).take ((n + 1) * 5))) = X.take (i * 5) ++ (E ++ X.drop (i * 5)) := by
  have hd : (X.drop (i * 5)).length = n * 5 - i * 5 := by rw [List.length_drop, hXl]
  have ht1 : (cur.take ((i + 1) * 5)).length = (i + 1) * 5 := by rw [List.length_take]; omega
  have e1 : (cur.take ((i + 1) * 5) ++ X.drop (i * 5) ++ cur.drop ((i + 1) * 5 + (X.drop (i * 5)).length)).take (i * 5) = X.take (i * 5) := by
    rw [List.append_assoc, List.take_append_of_le_length (by omega), List.take_take, ← hX, List.take_take]
    congr 1
    omega
  have e2 : (cur.take ((i + 1) * 5) ++ X.drop (i * 5) ++ cur.drop ((i + 1) * 5 + (X.drop (i * 5)).length)).drop (i * 5 + E.length) = X.drop (i * 5) ++ cur.drop ((i + 1) * 5 + (X.drop (i * 5)).length) := by
    rw [List.append_assoc, hE, show i * 5 + 5 = (cur.take ((i + 1) * 5)).length by omega, List.drop_left']
    rfl
  rw [e1, e2]
  have ht2 : (X.take (i * 5)).length = i * 5 := by rw [List.length_take, hXl]; omega
  rw [List.append_assoc, ← List.append_assoc E, ← List.append_assoc, List.take_append_of_le_length (by simp only [List.length_append]; omega), List.take_of_length_le (by simp only [List.length_append]; omega)]
theorem lists_grow {R X E : List Value} {n i : Nat} (hR : R.take (i * 5) = X.take (i * 5)) (hXl : X.length = n * 5) (hE : E.length = 5) (hi : i < n) (hl : (n + 1) * 5 ≤ R.length) :
    ((((R.take (i * 5) ++ E ++ R.drop (i * 5 + E.length)).take ((i + 1) * 5) ++ X.drop (i * 5) ++ (R.take (i * 5) ++ E ++ R.drop (i * 5 + E.length)).drop ((i + 1) * 5 + (X.drop (i * 5)).length)).take ((n + 1) * 5))) = X.take (i * 5) ++ (E ++ X.drop (i * 5)) := by
  have hd : (X.drop (i * 5)).length = n * 5 - i * 5 := by rw [List.length_drop, hXl]
  have ht1 : (R.take (i * 5)).length = i * 5 := by rw [List.length_take]; omega
  have e1 : (R.take (i * 5) ++ E ++ R.drop (i * 5 + E.length)).take ((i + 1) * 5) = X.take (i * 5) ++ E := by
    rw [List.take_append_of_le_length (by simp only [List.length_append]; omega), List.take_of_length_le (by simp only [List.length_append]; omega), hR]
  rw [e1]
  have ht2 : (X.take (i * 5)).length = i * 5 := by rw [List.length_take, hXl]; omega
  rw [List.take_append_of_le_length (by simp only [List.length_append]; omega), List.take_of_length_le (by simp only [List.length_append]; omega), List.append_assoc]
set_option maxHeartbeats 4000000 in
set_option maxRecDepth 100000 in
theorem insert_end (rs : List OutR) (l : OutR) (g c C base : Nat) (cur : Array Value) (w : World) (hg : w.heap[g]? = some (.cells cur 25)) (hcur : cur.size = C * 5) (hC : rs.length ≤ C) (hC2 : C ≤ 9223372036854775807) (ht : cur.toList.take (rs.length * 5) = clOus rs)
    (hc : w.heap[c]? = some (.cells #[.string l.partner, .int .i64 l.number, .string l.text, .int .i64 l.tries, .int .i64 l.due] 25)) (hgc : c ≠ g) (hbg : base ≤ g) (hbw : base ≤ w.heap.size) (hn : rs.length ≤ 1000) (hsz : ∀ x, x = l ∨ x ∈ rs → x.partner.size ≤ 9223372036854775807 ∧ x.text.size ≤ 9223372036854775807) :
    Calls Try.prog 27 #[.slice (some ⟨g, 0, none⟩) rs.length C, .int .i64 (rs.length : Int), .slice (some ⟨c, 0, none⟩) 1 1] w fun e w' => ∃ u, e = .returned u ∧ RowOu w' u (insT rs rs.length l) ∧ Below base w w' := by
  have hown : w.ownsRow base 25 5 (.slice (some ⟨g, 0, none⟩) rs.length C) rs.length (clOus rs) := ⟨clOus_len rs, .inr ⟨g, C, cur, rfl, hbg, hg, hC, by unfold maxLen; omega, hcur, ht⟩⟩
  have hat : AtOu w c 0 l := by
    refine ⟨?_, ?_, ?_, ?_, ?_⟩ <;> simp [World.cell?, hc]
  have HS : Hid (∀ x, x = l ∨ x ∈ rs → x.partner.size ≤ 9223372036854775807 ∧ x.text.size ≤ 9223372036854775807) := hsz
  have HO : Hid (w.ownsRow base 25 5 (.slice (some ⟨g, 0, none⟩) rs.length C) rs.length (clOus rs)) := hown
  clear hsz ht hcur hg hc
  by_cases hcc : C = rs.length
  · subst hcc
    go_enter Try.func27, Try.ntmps27
    go_wp2_with (first | (at_builtin; refine wpList_appOu rfl _ _ rfl rfl rfl hown hat (by omega) hbw ?_; rintro v' w' hown' hgrow ⟨A1, C1, rfl⟩))
    go_ret
    obtain ⟨b, _, hL⟩ := LOu.of_owns hown' (by simp; omega) (fun j x hx => HS.out x (by rcases List.mem_append.1 (List.mem_of_getElem? hx) with h | h; exact .inr h; exact .inl (List.mem_singleton.1 h)))
    refine ⟨_, rfl, ?_, ⟨hgrow.os, hgrow.tape, hgrow.output, hgrow.size, fun q hq => hgrow.block q (by omega) (fun e => by have := (HO.out.lt q e.symm).1; omega)⟩⟩
    have e : insT rs rs.length l = rs ++ [l] := by simp [insT]
    have e3 : (rs ++ [l]).length = rs.length + 1 := by simp
    have hrow := hL.row
    rw [e3] at hrow
    rw [e]
    exact hrow
  · have hcc' : ¬ C = rs.length := hcc
    go_enter Try.func27, Try.ntmps27
    go_wp2_with (first | (at_builtin; refine wpList_appOu rfl _ _ rfl rfl rfl hown hat (by omega) hbw ?_; rintro v' w' hown' hgrow ⟨A1, C1, rfl⟩))
    go_ret
    obtain ⟨b, _, hL⟩ := LOu.of_owns hown' (by simp; omega) (fun j x hx => HS.out x (by rcases List.mem_append.1 (List.mem_of_getElem? hx) with h | h; exact .inr h; exact .inl (List.mem_singleton.1 h)))
    refine ⟨_, rfl, ?_, ⟨hgrow.os, hgrow.tape, hgrow.output, hgrow.size, fun q hq => hgrow.block q (by omega) (fun e => by have := (HO.out.lt q e.symm).1; omega)⟩⟩
    have e : insT rs rs.length l = rs ++ [l] := by simp [insT]
    have e3 : (rs ++ [l]).length = rs.length + 1 := by simp
    have hrow := hL.row
    rw [e3] at hrow
    rw [e]
    exact hrow
set_option maxHeartbeats 4000000 in
set_option maxRecDepth 100000 in
theorem insert_shift (rs : List OutR) (l : OutR) (g c i C base : Nat) (cur : Array Value) (w : World) (hg : w.heap[g]? = some (.cells cur 25)) (hcur : cur.size = C * 5) (hC : rs.length ≤ C) (hC2 : C ≤ 9223372036854775807) (ht : cur.toList.take (rs.length * 5) = clOus rs)
    (hc : w.heap[c]? = some (.cells #[.string l.partner, .int .i64 l.number, .string l.text, .int .i64 l.tries, .int .i64 l.due] 25)) (hgc : c ≠ g) (hbg : base ≤ g) (hbw : base ≤ w.heap.size) (hn : rs.length ≤ 1000) (hsz : ∀ x, x = l ∨ x ∈ rs → x.partner.size ≤ 9223372036854775807 ∧ x.text.size ≤ 9223372036854775807) (hi : i < rs.length) (hroom : rs.length + 1 ≤ C) :
    Calls Try.prog 27 #[.slice (some ⟨g, 0, none⟩) rs.length C, .int .i64 (i : Int), .slice (some ⟨c, 0, none⟩) 1 1] w fun e w' => ∃ u, e = .returned u ∧ RowOu w' u (insT rs i l) ∧ Below base w w' := by
  have hcl := clOus_len rs
  have hcs := cellsOf hg ht
  have hsa : w.shape? c = some (25, 5) := by simp [World.shape?, hc]
  have hsb : w.shape? g = some (25, C * 5) := by simp [World.shape?, hg, hcur]
  have hfa : w.frozen? ⟨c, 0, none⟩ = false := by simp [World.frozen?, hc]
  have hfe : w.frozen? ⟨c, 5, none⟩ = false := by simp [World.frozen?, hc]
  have hov : ∀ lb cb, (callFunc 49 #[.slice (some ⟨c, 0, none⟩) 1 1, .slice (some ⟨g, (i + 1) * 5, none⟩) lb cb]).run Try.prog w = .ok (.value (.bool false)) w := fun lb cb => by
    rw [run_callFunc_extern Try.func49 (by kernel_rfl) (by kernel_rfl) (by kernel_rfl) (e := Extern.SlicesOverlaps.overlaps #[23, 23] #[4]) (by kernel_rfl),
      Lib.run_overlaps_apart w 23 4 25 Try.underlying23 5 Try.sizeOf25 ⟨c, 0, none⟩ ⟨g, (i + 1) * 5, none⟩ 1 1 lb cb hgc 25 25 5 (C * 5) hsa hsb (by omega) hfa hfe]
    rfl
  have hdl : ((clOus rs).drop (i * 5)).length = (rs.length - i) * 5 := by rw [List.length_drop, hcl]; omega
  obtain ⟨R1, hR1⟩ : ∃ R1 : List Value, R1 = cur.toList.take ((i + 1) * 5) ++ (clOus rs).drop (i * 5) ++ cur.toList.drop ((i + 1) * 5 + ((clOus rs).drop (i * 5)).length) := ⟨_, rfl⟩
  obtain ⟨W1, hW1⟩ : ∃ W1, W1 = w.drew.setRow g R1.toArray := ⟨_, rfl⟩
  have hcl2 : cur.toList.length = C * 5 := by simpa using hcur
  have hR1l : R1.length = C * 5 := by
    rw [hR1]
    simp only [List.length_append, List.length_take, List.length_drop, hcl2, hcl]
    omega
  have hcp1 : ∀ ty dc sc, (Builtin.copy_ #[23, 23] ty #[.slice (some ⟨g, (i + 1) * 5, none⟩) (rs.length - i) dc, .slice (some ⟨g, i * 5, none⟩) (rs.length + 1 - i) sc]).run Try.prog w.drew = .ok (goInt (Nat.min (rs.length + 1 - i) (rs.length - i))) W1 := fun ty dc sc => by
    rw [hW1, hR1]
    exact run_copy5 w.drew ty g ((i + 1) * 5) (rs.length - i) dc ⟨g, i * 5, none⟩ (rs.length + 1 - i) sc cur ((clOus rs).drop (i * 5)) hg (by rw [hdl]; congr 1; simp only [Nat.min_def]; split <;> omega)
      (fun j v hj => by rw [fl_addr]; exact hcs _ v (by rwa [List.getElem?_drop] at hj)) (by rw [hdl, hcur]; omega) (fun v hv => clOus_one v (List.mem_of_mem_drop hv))
  have hg1 : W1.heap[g]? = some (.cells R1.toArray 25) := by rw [hW1]; exact setRow_heap w.drew g cur _ 25 _ hg
  have hc1 : W1.heap[c]? = some (.cells #[.string l.partner, .int .i64 l.number, .string l.text, .int .i64 l.tries, .int .i64 l.due] 25) := by rw [hW1, setRow_other _ _ _ _ hgc]; exact hc
  obtain ⟨R2, hR2⟩ : ∃ R2 : List Value, R2 = R1.take (i * 5) ++ clOu l ++ R1.drop (i * 5 + (clOu l).length) := ⟨_, rfl⟩
  obtain ⟨W2, hW2⟩ : ∃ W2, W2 = W1.setRow g R2.toArray := ⟨_, rfl⟩
  have hel : (clOu l).length = 5 := rfl
  have hcp2 : ∀ ty dc, (Builtin.copy_ #[23, 23] ty #[.slice (some ⟨g, i * 5, none⟩) (rs.length + 1 - i) dc, .slice (some ⟨c, 0, none⟩) 1 1]).run Try.prog W1 = .ok (goInt (Nat.min 1 (rs.length + 1 - i))) W2 := fun ty dc => by
    rw [hW2, hR2]
    have := run_copy5 W1 ty g (i * 5) (rs.length + 1 - i) dc ⟨c, 0, none⟩ 1 1 R1.toArray (clOu l) hg1 (by rw [hel]; simp only [Nat.min_def]; split <;> omega) (fun j v hj => by
      rw [fl_addr, Nat.zero_add]
      simp only [World.cell?, hc1]
      simpa [clOu] using hj) (by rw [hel]; simp only [List.size_toArray]; omega) (fun v hv => by
      have : v ∈ clOus [l] := by simpa [clOus] using hv
      exact clOus_one v this)
    simpa using this
  have hrow : RowOu W2 (.slice (some ⟨g, 0, none⟩) (rs.length + 1) C) (insT rs i l) := by
    have hlen := insT_len rs i l (by omega)
    have := rowOu_block (W := W2) (G := g) (C := C) (cur := R2.toArray) (L := insT rs i l) (by rw [hW2]; exact setRow_heap W1 g _ _ 25 _ hg1) (by
      rw [hlen, insT_cells]
      rw [hR2, hR1]
      exact lists_shift ht hcl hel hi (by rw [hcl2]; omega)) (by omega) (insT_sizes hsz)
    rw [hlen] at this
    exact this
  have HF : Hid (RowOu W2 (.slice (some ⟨g, 0, none⟩) (rs.length + 1) C) (insT rs i l) ∧ Below base w W2) := ⟨hrow, by
    rw [hW2, hW1]
    exact below_row (below_row (Below.refl _ _).drew hbg _) hbg _⟩
  clear hrow hW2 hR2 hg1 hc1 hR1 hcs hsz ht hcur hg hc hsa hsb hfa hfe hdl hcl hcl2 hR1l hel
  have HW1 : Hid (W1 = w.drew.setRow g R1.toArray) := hW1
  clear hW1
  have hz2 : ¬ ((i : Int) = (rs.length : Int)) := by omega
  have hin : i ≤ rs.length := by omega
  have hb1 : (0 : Int) ≤ (i : Int) + 1 := by omega
  have hb2 : ¬ (C = i + 1) := by omega
  have hb3 : (i : Int) ≤ (rs.length : Int) + 1 := by omega
  have hb4 : ¬ (C = i) := by omega
  have hb5 : (i : Int) + 1 ≤ (rs.length : Int) + 1 := by omega
  have hb6 : ¬ ((C : Int) < (rs.length : Int) + 1) := by omega
  have htn : ((i : Int) + 1).toNat = i + 1 := by omega
  have hw1 : IntKind.i64.wrap ((i : Int) + 1) = (i : Int) + 1 := by rw [IntKind.wrap_i64]; omega
  go_enter Try.func27, Try.ntmps27
  go_wp2_with (simp only [hov])
  go_region_law (refine step_copyR rfl _ _ rfl _ _ (by simp [Act.eval, Act.put]) (by simp [Act.eval, Act.put]) (hcp1 _ _ _) ?_)
  go_wp2_with (at_builtin; refine wpList_copyR rfl _ _ rfl _ _ rfl rfl (hcp2 _ _) ?_)
  go_ret
  exact ⟨_, rfl, HF.out.1, HF.out.2⟩
set_option maxHeartbeats 4000000 in
set_option maxRecDepth 100000 in
theorem insert_grow (rs : List OutR) (l : OutR) (g c i C base : Nat) (cur : Array Value) (w : World) (hg : w.heap[g]? = some (.cells cur 25)) (hcur : cur.size = C * 5) (hC : rs.length ≤ C) (hC2 : C ≤ 9223372036854775807) (ht : cur.toList.take (rs.length * 5) = clOus rs)
    (hc : w.heap[c]? = some (.cells #[.string l.partner, .int .i64 l.number, .string l.text, .int .i64 l.tries, .int .i64 l.due] 25)) (hgc : c ≠ g) (hbg : base ≤ g) (hbw : base ≤ w.heap.size) (hn : rs.length ≤ 1000) (hsz : ∀ x, x = l ∨ x ∈ rs → x.partner.size ≤ 9223372036854775807 ∧ x.text.size ≤ 9223372036854775807) (hi : i < rs.length) (hroom : C < rs.length + 1) :
    Calls Try.prog 27 #[.slice (some ⟨g, 0, none⟩) rs.length C, .int .i64 (i : Int), .slice (some ⟨c, 0, none⟩) 1 1] w fun e w' => ∃ u, e = .returned u ∧ RowOu w' u (insT rs i l) ∧ Below base w w' := by
  have hcl := clOus_len rs
  have hcs := cellsOf hg ht
  have hdl : ((clOus rs).drop (i * 5)).length = (rs.length - i) * 5 := by rw [List.length_drop, hcl]; omega
  have hel : (clOu l).length = 5 := rfl
  obtain ⟨cap, R, hcap, hRs, hRt, happ⟩ := run_appZ w 23 g i (rs.length + 1 - i) C rs hcs (by omega) (by omega) (by omega) (by omega)
  have hkk : ((rs.length + 1 - i : Nat) : Int) = (rs.length : Int) + 1 - (i : Int) := by omega
  have hik : i + (rs.length + 1 - i) = rs.length + 1 := by omega
  rw [hkk, hik] at happ
  rw [hik] at hcap
  obtain ⟨G, hG⟩ : ∃ G, G = w.heap.size := ⟨_, rfl⟩
  obtain ⟨W2, hW2⟩ : ∃ W2, W2 = w.drew.alloc (.cells R 25) := ⟨_, rfl⟩
  rw [← hG, ← hW2] at happ
  have hgl := (Array.getElem?_eq_some_iff.1 hg).1
  have hcll := (Array.getElem?_eq_some_iff.1 hc).1
  have hb2 : Below w.heap.size w W2 := by rw [hW2]; exact (Below.refl _ _).drew.alloc (Nat.le_refl _) _
  have hg2 : W2.heap[G]? = some (.cells R 25) := by rw [hW2, hG]; exact World.alloc_heap_new w.drew _
  have hs2 : W2.heap[g]? = some (.cells cur 25) := (hb2.block _ hgl).trans hg
  have hc2 : W2.heap[c]? = some (.cells #[.string l.partner, .int .i64 l.number, .string l.text, .int .i64 l.tries, .int .i64 l.due] 25) := (hb2.block _ hcll).trans hc
  have hRl : R.toList.length = cap * 5 := by simpa using hRs
  obtain ⟨R1, hR1⟩ : ∃ R1 : List Value, R1 = R.toList.take (i * 5) ++ clOu l ++ R.toList.drop (i * 5 + (clOu l).length) := ⟨_, rfl⟩
  obtain ⟨W3, hW3⟩ : ∃ W3, W3 = W2.setRow G R1.toArray := ⟨_, rfl⟩
  have hR1l : R1.length = cap * 5 := by
    rw [hR1]
    simp only [List.length_append, List.length_take, List.length_drop, hRl, hel]
    omega
  have hcp1 : ∀ ty dc, (Builtin.copy_ #[23, 23] ty #[.slice (some ⟨G, i * 5, none⟩) (rs.length + 1 - i) dc, .slice (some ⟨c, 0, none⟩) 1 1]).run Try.prog W2 = .ok (goInt (Nat.min 1 (rs.length + 1 - i))) W3 := fun ty dc => by
    rw [hW3, hR1]
    exact run_copy5 W2 ty G (i * 5) (rs.length + 1 - i) dc ⟨c, 0, none⟩ 1 1 R (clOu l) hg2 (by rw [hel]; simp only [Nat.min_def]; split <;> omega) (fun j v hj => by
      rw [fl_addr, Nat.zero_add]
      simp only [World.cell?, hc2]
      simpa [clOu] using hj) (by rw [hel]; omega) (fun v hv => by
      have : v ∈ clOus [l] := by simpa [clOus] using hv
      exact clOus_one v this)
  have hGg : g ≠ G := by omega
  have hg3 : W3.heap[G]? = some (.cells R1.toArray 25) := by rw [hW3]; exact setRow_heap W2 G R _ 25 _ hg2
  have hs3 : W3.heap[g]? = some (.cells cur 25) := by rw [hW3, setRow_other _ _ _ _ hGg]; exact hs2
  obtain ⟨R2, hR2⟩ : ∃ R2 : List Value, R2 = R1.take ((i + 1) * 5) ++ (clOus rs).drop (i * 5) ++ R1.drop ((i + 1) * 5 + ((clOus rs).drop (i * 5)).length) := ⟨_, rfl⟩
  obtain ⟨W4, hW4⟩ : ∃ W4, W4 = W3.drew.setRow G R2.toArray := ⟨_, rfl⟩
  have hcp2 : ∀ ty dc sc, (Builtin.copy_ #[23, 23] ty #[.slice (some ⟨G, (i + 1) * 5, none⟩) (rs.length - i) dc, .slice (some ⟨g, i * 5, none⟩) (rs.length - i) sc]).run Try.prog W3.drew = .ok (goInt (Nat.min (rs.length - i) (rs.length - i))) W4 := fun ty dc sc => by
    rw [hW4, hR2]
    have hcs3 := cellsOf hs3 ht
    have := run_copy5 W3.drew ty G ((i + 1) * 5) (rs.length - i) dc ⟨g, i * 5, none⟩ (rs.length - i) sc R1.toArray ((clOus rs).drop (i * 5)) hg3 (by rw [hdl]; congr 1; simp only [Nat.min_def]; split <;> omega)
      (fun j v hj => by rw [fl_addr]; exact hcs3 _ v (by rwa [List.getElem?_drop] at hj)) (by rw [hdl]; simp only [List.size_toArray]; omega) (fun v hv => clOus_one v (List.mem_of_mem_drop hv))
    simpa using this
  have hrow : RowOu W4 (.slice (some ⟨G, 0, none⟩) (rs.length + 1) cap) (insT rs i l) := by
    have hlen := insT_len rs i l (by omega)
    have := rowOu_block (W := W4) (G := G) (C := cap) (cur := R2.toArray) (L := insT rs i l) (by rw [hW4]; exact setRow_heap W3.drew G _ _ 25 _ hg3) (by
      rw [hlen, insT_cells]
      rw [hR2, hR1]
      exact lists_grow hRt hcl hel hi (by rw [hRl]; omega)) (by omega) (insT_sizes hsz)
    rw [hlen] at this
    exact this
  have HF : Hid (RowOu W4 (.slice (some ⟨G, 0, none⟩) (rs.length + 1) cap) (insT rs i l) ∧ Below base w W4) := ⟨hrow, by
    have hbG : base ≤ G := by omega
    have h2 : Below base w W2 := hb2.mono hbw
    rw [hW4, hW3]
    exact below_row (below_row h2 hbG _).drew hbG _⟩
  have HG : Hid (G = w.heap.size) := hG
  clear hrow hW4 hR2 hg3 hs3 hW3 hR1 hg2 hs2 hc2 hW2 hb2 hcs hsz ht hcur hg hc hdl hcl hR1l hel hRl hRt hRs hG hkk hik hgl hcll hGg
  have hz2 : ¬ ((i : Int) = (rs.length : Int)) := by omega
  have hin : i ≤ rs.length := by omega
  have hb1 : (0 : Int) ≤ (i : Int) + 1 := by omega
  have hb3 : (i : Int) ≤ (rs.length : Int) + 1 := by omega
  have hb4 : ¬ (C = i) := by omega
  have hb5 : (i : Int) + 1 ≤ (rs.length : Int) + 1 := by omega
  have hb6 : (C : Int) < (rs.length : Int) + 1 := by omega
  have hb7 : ¬ (cap = i) := by omega
  have hb8 : ¬ (cap = i + 1) := by omega
  have hb9 : i ≤ C := by omega
  have htn : ((i : Int) + 1).toNat = i + 1 := by omega
  have hw1 : IntKind.i64.wrap ((i : Int) + 1) = (i : Int) + 1 := by rw [IntKind.wrap_i64]; omega
  go_enter Try.func27, Try.ntmps27
  go_wp2_with (first | (at_builtin; refine wpList_appR rfl _ _ rfl _ _ rfl rfl happ ?_) | (at_builtin; refine wpList_copyR rfl _ _ rfl _ _ rfl rfl (hcp1 _ _) ?_))
  go_region_law (refine step_copyR rfl _ _ rfl _ _ (by simp [Act.eval, Act.put]) (by simp [Act.eval, Act.put]) (hcp2 _ _ _) ?_)
  go_wp2
  go_ret
  exact ⟨_, rfl, HF.out.1, HF.out.2⟩
theorem insert_any (rs : List OutR) (l : OutR) (g c i C base : Nat) (cur : Array Value) (w : World) (hg : w.heap[g]? = some (.cells cur 25)) (hcur : cur.size = C * 5) (hC : rs.length ≤ C) (hC2 : C ≤ 9223372036854775807) (ht : cur.toList.take (rs.length * 5) = clOus rs)
    (hc : w.heap[c]? = some (.cells #[.string l.partner, .int .i64 l.number, .string l.text, .int .i64 l.tries, .int .i64 l.due] 25)) (hgc : c ≠ g) (hbg : base ≤ g) (hbw : base ≤ w.heap.size) (hn : rs.length ≤ 1000) (hsz : ∀ x, x = l ∨ x ∈ rs → x.partner.size ≤ 9223372036854775807 ∧ x.text.size ≤ 9223372036854775807) (hi : i ≤ rs.length) : Calls Try.prog 27 #[.slice (some ⟨g, 0, none⟩) rs.length C, .int .i64 (i : Int), .slice (some ⟨c, 0, none⟩) 1 1] w fun e w' => ∃ u, e = .returned u ∧ RowOu w' u (insT rs i l) ∧ Below base w w' := by
  rcases Nat.lt_or_ge i rs.length with h | h
  · rcases Nat.lt_or_ge C (rs.length + 1) with h2 | h2
    · exact insert_grow rs l g c i C base cur w hg hcur hC hC2 ht hc hgc hbg hbw hn hsz h h2
    · exact insert_shift rs l g c i C base cur w hg hcur hC hC2 ht hc hgc hbg hbw hn hsz h h2
  · obtain rfl : i = rs.length := by omega
    exact insert_end rs l g c C base cur w hg hcur hC hC2 ht hc hgc hbg hbw hn hsz
end Go.Proofs.Ytiakkpglnijapaa
