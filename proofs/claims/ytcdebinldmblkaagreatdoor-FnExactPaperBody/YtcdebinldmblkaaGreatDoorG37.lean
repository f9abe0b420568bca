/- Texts of ours put together: PsE. -/
import Derived.Test.YtcdebinldmblkaaGreatDoorG35
import Derived.Test.YtcdebinldmblkaaGreatDoorG36
import Derived.Test.YtcdebinldmblkaaGreatDoorG27
namespace Go.Proofs.YtcdebinldmblkaaGreatDoor
open Go.ChangeShapes Go.WideShapes Go.ChangeAt Go.RowKit
theorem wordB_sm {c n : Int} (hc : c = 110 ∨ c = 113 ∨ c = 122 ∨ c = 100) (h : wordB c (decS n) = true) : -1000000000000 < n ∧ n < 1000000000000 := by
  unfold wordB at h
  rw [if_neg (by omega), if_neg (by omega)] at h
  split at h
  · have := inB_dec h; omega
  · split at h
    · have := zB_dec h; omega
    · split at h
      · have := inB_dec h; omega
      · have := inB_dec h; omega
theorem words_rdS (k : Int) (l : Ln) : wordsS k (lnS k l) = wordsS k l := by
  unfold wordsS lnS wordsI lnI
  repeat' split
  all_goals first | rfl | omega
theorem lnS_rd (k : Int) (l : Ln) : lnS k (lnS k l) = lnS k l := by
  unfold lnS lnI
  repeat' split
  all_goals first | rfl | omega
theorem opt_sm {ls : List UInt8} {ws : List ByteArray} {n : Int} {j : Nat} (hl : ls[j]? = some 110) (hw : (optN n)[0]? = ws[j]?) (h : ∀ (j : Nat) (c : UInt8) (t : ByteArray), ls[j]? = some c → ws[j]? = some t → wordB (c.toNat : Int) t = true) : -1000000000000 < n ∧ n < 1000000000000 := by
  unfold optN at hw
  split at hw
  · omega
  · exact wordB_sm (c := 110) (by omega) (h j 110 _ hl hw.symm)
/-- The numbers of a line that a form takes are small. -/
theorem sm_of {k : Int} (hk : 1 ≤ k ∧ k ≤ 7) {l : Ln} (h : frV (bs (formK k)) ((wordsS k l).map fun t => [t]) = -1) : SmL (lnS k l) := by
  have z12 : -1000000000000 < (0 : Int) ∧ (0 : Int) < 1000000000000 := by decide
  obtain ⟨ls, m, hf, _, hls⟩ := formF_K k
  obtain ⟨_, _, hW⟩ := form_words hf h
  subst hls
  clear hf h
  obtain rfl | rfl | rfl | rfl | rfl | rfl | rfl : k = 1 ∨ k = 2 ∨ k = 3 ∨ k = 4 ∨ k = 5 ∨ k = 6 ∨ k = 7 := by omega
  · exact ⟨wordB_sm (c := 110) (by omega) (hW 0 110 _ rfl rfl), wordB_sm (c := 113) (by omega) (hW 2 113 _ rfl rfl), opt_sm (j := 3) rfl rfl hW⟩
  · exact ⟨wordB_sm (c := 110) (by omega) (hW 0 110 _ rfl rfl), wordB_sm (c := 113) (by omega) (hW 1 113 _ rfl rfl), z12⟩
  · exact ⟨wordB_sm (c := 110) (by omega) (hW 0 110 _ rfl rfl), wordB_sm (c := 113) (by omega) (hW 1 113 _ rfl rfl), z12⟩
  · exact ⟨wordB_sm (c := 110) (by omega) (hW 0 110 _ rfl rfl), wordB_sm (c := 113) (by omega) (hW 1 113 _ rfl rfl), z12⟩
  · exact ⟨z12, wordB_sm (c := 110) (by omega) (hW 1 110 _ rfl rfl), z12⟩
  · exact ⟨z12, wordB_sm (c := 122) (by omega) (hW 1 122 _ rfl rfl), z12⟩
  · exact ⟨wordB_sm (c := 110) (by omega) (hW 0 110 _ rfl rfl), wordB_sm (c := 110) (by omega) (hW 1 110 _ rfl rfl), opt_sm (j := 2) rfl rfl hW⟩
theorem day_sm {p : Pap} (h : frV (bs (formD p.kind)) ((docW p).map fun t => [t]) = -1) : -1000000000000 < p.day ∧ p.day < 1000000000000 := by
  obtain ⟨ls, m, hf, _, hls⟩ := formF_D p.kind
  obtain ⟨_, _, hW⟩ := form_words hf h
  subst hls
  cases hO : hasO p.kind with
  | true =>
    rw [docW_yes hO, if_pos hO] at hW
    exact wordB_sm (c := 100) (by omega) (hW 2 100 _ rfl rfl)
  | false =>
    rw [docW_no hO, if_neg (by rw [hO]; simp)] at hW
    exact wordB_sm (c := 100) (by omega) (hW 1 100 _ rfl rfl)
theorem body_noteF {f : Int → Ln → List ByteArray} {p : Pap} {k : Nat} (h : k < p.notes.length) : ∃ t, p.notes[k]? = some t ∧ (bodyW f p)[k + 1]? = some (noteG t) := by
  refine ⟨_, List.getElem?_eq_getElem h, ?_⟩
  unfold bodyW
  rw [List.getElem?_cons_succ, List.getElem?_append_left (by rw [List.length_map]; exact h), List.getElem?_map, List.getElem?_eq_getElem h]
  rfl
theorem body_lineF {f : Int → Ln → List ByteArray} {p : Pap} {k : Nat} (h : k < p.lines.length) : ∃ l, p.lines[k]? = some l ∧ (bodyW f p)[p.notes.length + k + 1]? = some (lineG f p.kind l) := by
  refine ⟨_, List.getElem?_eq_getElem h, ?_⟩
  unfold bodyW
  rw [List.getElem?_cons_succ, List.getElem?_append_right (by rw [List.length_map]; omega), List.length_map, show p.notes.length + k - p.notes.length = k by omega, List.getElem?_map, List.getElem?_eq_getElem h]
  rfl
theorem lnS_bd {k : Int} {ls : List Ln} (h : BdL 1048576 ls) {l : Ln} (hl : l ∈ ls) : (lnS k l).item.size ≤ 1048576 ∧ (lnS k l).note.size ≤ 1048576 := by
  obtain ⟨i, hi⟩ := List.getElem?_of_mem hl
  have hz := h.2 i l hi
  have e0 : eT.size = 0 := rfl
  unfold lnS lnI
  repeat' split
  all_goals exact ⟨by simp only [e0]; omega, by simp only [e0]; omega⟩
theorem lnS_int {k : Int} {l : Ln} (h : LnI l) : LnI (lnS k l) := by
  obtain ⟨h0, h1, h2⟩ := h
  have z : i64B 0 := by unfold i64B; omega
  unfold lnS lnI
  repeat' split
  all_goals exact ⟨by first | exact h0 | exact z, h1, by first | exact h2 | exact z⟩
theorem wordsS_bd {k : Int} {l : Ln} (hI : LnI l) (hz : l.item.size ≤ 1048576 ∧ l.note.size ≤ 1048576) : (wordsS k l).length ≤ 4 ∧ ∀ t ∈ wordsS k l, t.size ≤ 1048576 := by
  unfold wordsS
  split
  · have h0 := (decS_long l.no hI.1.1 hI.1.2).2
    have h1 := (decS_long l.qty hI.2.1.1 hI.2.1.2).2
    unfold optT
    split
    all_goals
      refine ⟨by simp, fun t ht => ?_⟩
      simp only [List.mem_append, List.mem_cons, List.not_mem_nil, or_false] at ht
      rcases ht with (rfl | rfl) | rfl <;> omega
  · exact wordsI_bd hI hz
theorem body_bd1S {p : Pap} (hI : PapI p) (hB : BdP 1048576 p) : Bd1 (bodyW wordsS p) := by
  obtain ⟨h1, h2, h3, h4⟩ := hB
  intro g hg
  unfold bodyW at hg
  rcases List.mem_cons.1 hg with rfl | hg
  · exact hd_bd1 (by decide) (by have := docW_len p; omega) (docW_bd hI.1 ⟨h1, h2⟩)
  · rcases List.mem_append.1 hg with hg | hg
    · obtain ⟨t, ht, rfl⟩ := List.mem_map.1 hg
      obtain ⟨i, hi⟩ := List.getElem?_of_mem ht
      exact hd_bd1 (by decide) (by simp) (fun x hx => by rw [List.mem_singleton.1 hx]; exact h3.2 i t hi)
    · obtain ⟨l, hl, rfl⟩ := List.mem_map.1 hg
      obtain ⟨i, hi⟩ := List.getElem?_of_mem hl
      obtain ⟨q1, q2⟩ := wordsS_bd (k := p.kind) (hI.2 l hl) (h4.2 i l hi)
      exact hd_bd1 (sTag_size _) (by omega) q2
theorem bdE_w {ws : List ByteArray} (hl : ws.length ≤ 10) (hz : ∀ t ∈ ws, t.size ≤ 1048576) : BdE 1048576 (ws.map fun t => [t]) := by
  refine ⟨by rw [List.length_map]; omega, fun i e he => ?_⟩
  rw [List.getElem?_map] at he
  obtain ⟨t, ht, rfl⟩ := Option.map_eq_some_iff.1 he
  refine ⟨by simp, fun j x hx => ?_⟩
  have := List.mem_of_getElem? hx
  rw [List.mem_singleton] at this
  rw [this]
  exact hz t (List.mem_of_getElem? ht)
theorem l01Num_ex (t : ByteArray) (w : World) (hz : t.size ≤ 281474976710656) : Calls Tryz.prog 72 #[.string t] w fun e w' => (∃ n b, e = .returned (.tuple #[.int .i64 n, .bool b]) ∧ ∀ m, NumM t m → -1000000000000 < m → m < 1000000000000 → n = m) ∧ Below w.heap.size w w' := by
  by_cases h : t = eT
  · subst h
    refine (l01Num_eT w).mono ?_
    rintro e w' ⟨⟨b, rfl⟩, hb⟩
    refine ⟨⟨0, b, rfl, fun m hm _ _ => ?_⟩, hb⟩
    rcases hm with hm | hm
    · exfalso
      have : numT eT.data.toList = none := by rfl
      rw [this] at hm
      cases hm
    · exact hm.2.symm
  · refine (l01Num_any t w hz).mono ?_
    rintro e w' ⟨n, b, rfl, hL, hb⟩
    refine ⟨⟨n, b, rfl, fun m hm h0 h1 => ?_⟩, hb⟩
    rcases hm with hm | hm
    · rcases hL with ⟨_, q⟩ | ⟨_, q⟩
      · rw [hm] at q
        cases q
        rfl
      · have := q m hm
        omega
    · exact absurd hm.1 h
set_option maxRecDepth 20000 in
set_option maxHeartbeats 16000000 in
theorem l05Num_ex (tag : ByteArray) (v : Value) (es : List (List ByteArray)) (i : Int) (w : World) (h : RowE w v es) (hE : BdE 1048576 es) :
    Calls Tryz.prog 54 #[.agg #[.string tag, v], .int .i64 i] w fun e w' => (∃ n, e = .returned (.int .i64 n) ∧ ∀ m, NumE es i m → n = m) ∧ Below w.heap.size w w' := by
  obtain ⟨A, C, rfl⟩ := h.val
  have bA : Below w.heap.size w (w.alloc (.cells #[.string tag, .slice A es.length C] 46)) := (Below.refl _ _).alloc (Nat.le_refl _) _
  have H : Hid (RowE (w.alloc (.cells #[.string tag, .slice A es.length C] 46)) (.slice A es.length C) es ∧ Below w.heap.size w (w.alloc (.cells #[.string tag, .slice A es.length C] 46)) ∧ BdE 1048576 es) := ⟨h.below bA, bA, hE⟩
  clear h bA hE
  go_enter Tryz.func54, Tryz.ntmps54
  go_wp2_with fail
  refine (part_spec tag _ es i 0 _ H.out.1 H.out.2.2).mono ?_
  rintro e w1 ⟨rfl, hb1⟩
  have H1 : Hid (Below w.heap.size w w1) := H.out.2.1.trans (hb1.mono (by simp))
  clear hb1
  go_wp2_with fail
  refine (l01Num_ex _ _ (by have := partF_bd H.out.2.2 i 0; omega)).mono ?_
  rintro e w2 ⟨⟨n, b, rfl, hn⟩, hb2⟩
  have H2 : Hid (Below w.heap.size w w2 ∧ ∀ m, NumM (partF es i 0) m → -1000000000000 < m → m < 1000000000000 → n = m) := ⟨H1.out.trans (hb2.mono H1.out.size), hn⟩
  clear hb2 hn
  go_wp2
  go_ret
  exact ⟨⟨_, rfl, fun m hm => H2.out.2 m hm.1 hm.2.1 hm.2.2⟩, H2.out.1⟩
/-- The boxes of the model's PaperOf: the answer's, the paper's; its lists in rows of their own. -/
structure PS (w W : World) (P : Nat) (q : Pap) (vn vl : Value) : Prop where
  res : W.heap[w.heap.size]? = some (.cells #[.int .i64 0, .string ⟨#[]⟩, .string ⟨#[]⟩, .int .i64 0, .slice none 0 0, .slice none 0 0, .int .i64 0, .int .i64 0] 57)
  box : W.heap[P]? = some (.cells #[.int .i64 q.kind, .string q.ref, .string q.other, .int .i64 q.day, vn, vl] 31)
  hP : w.heap.size < P
  ns : W.ownsRow (P + 1) 9 1 vn q.notes.length (q.notes.map Value.string)
  ls : W.ownsRow (P + 1) 63 5 vl q.lines.length (clLs q.lines)
  bel : Below w.heap.size w W
theorem PS.below {w W W' : World} {P : Nat} {q : Pap} {vn vl : Value} (h : PS w W P q vn vl) (hb : Below W.heap.size W W') : PS w W' P q vn vl :=
  ⟨(hb.block _ (Array.getElem?_eq_some_iff.1 h.res).1).trans h.res, (hb.block _ (Array.getElem?_eq_some_iff.1 h.box).1).trans h.box, h.hP, own_below h.ns hb, own_below h.ls hb, h.bel.trans (hb.mono h.bel.size)⟩
theorem PS.lt {w W : World} {P : Nat} {q : Pap} {vn vl : Value} (h : PS w W P q vn vl) : P + 1 ≤ W.heap.size := (Array.getElem?_eq_some_iff.1 h.box).1
theorem PS.note {w W w' : World} {P : Nat} {q : Pap} {vn vl v' : Value} {t : ByteArray} (h : PS w W P q vn vl) (ho : w'.ownsRow (P + 1) 9 1 v' (q.notes.length + 1) ((q.notes ++ [t]).map Value.string)) (hg : W.grownBy w' vn.ownBlock) :
    w'.heap[P]? = some (.cells #[.int .i64 q.kind, .string q.ref, .string q.other, .int .i64 q.day, vn, vl] 31) ∧ PS w (w'.setCell ⟨P, 4, none⟩ v') P ⟨q.kind, q.ref, q.other, q.day, q.notes ++ [t], q.lines⟩ v' vl := by
  have hlt := h.lt
  have hP := h.hP
  have hne : ∀ j, j < P + 1 → some j ≠ vn.ownBlock := fun j hj e => by
    have := (h.ns.lt j e.symm).1
    omega
  have hbx : w'.heap[P]? = some (.cells #[.int .i64 q.kind, .string q.ref, .string q.other, .int .i64 q.day, vn, vl] 31) := (hg.block _ (by omega) (hne _ (by omega))).trans h.box
  have hls : w'.ownsRow (P + 1) 63 5 vl q.lines.length (clLs q.lines) := h.ls.kept hg (own_ne2 h.ls h.ns (by decide))
  refine ⟨hbx, (setNe _ (by omega)).trans ((hg.block _ (by omega) (hne _ (by omega))).trans h.res), heap_setCell_same w' _ 4 _ _ v' hbx, hP, by rw [List.length_append]; exact own_set ho hbx (by decide), own_set hls hbx (by decide), ?_⟩
  exact (h.bel.trans ⟨hg.os, hg.tape, hg.output, hg.size, fun j hj => hg.block j (by have := h.bel.size; omega) (hne j (by omega))⟩).setCell (show w.heap.size ≤ P by omega) _
theorem PS.line {w W w' : World} {P : Nat} {q : Pap} {vn vl v' : Value} {l : Ln} (h : PS w W P q vn vl) (ho : w'.ownsRow (P + 1) 63 5 v' (q.lines.length + 1) (clLs q.lines ++ clL l)) (hg : W.grownBy w' vl.ownBlock) :
    w'.heap[P]? = some (.cells #[.int .i64 q.kind, .string q.ref, .string q.other, .int .i64 q.day, vn, vl] 31) ∧ PS w (w'.setCell ⟨P, 5, none⟩ v') P ⟨q.kind, q.ref, q.other, q.day, q.notes, q.lines ++ [l]⟩ vn v' := by
  have hlt := h.lt
  have hP := h.hP
  have hne : ∀ j, j < P + 1 → some j ≠ vl.ownBlock := fun j hj e => by
    have := (h.ls.lt j e.symm).1
    omega
  have hbx : w'.heap[P]? = some (.cells #[.int .i64 q.kind, .string q.ref, .string q.other, .int .i64 q.day, vn, vl] 31) := (hg.block _ (by omega) (hne _ (by omega))).trans h.box
  have hns : w'.ownsRow (P + 1) 9 1 vn q.notes.length (q.notes.map Value.string) := h.ns.kept hg (own_ne2 h.ns h.ls (by decide))
  refine ⟨hbx, (setNe _ (by omega)).trans ((hg.block _ (by omega) (hne _ (by omega))).trans h.res), heap_setCell_same w' _ 5 _ _ v' hbx, hP, own_set hns hbx (by decide), by rw [List.length_append, clLs_app]; exact own_set ho hbx (by decide), ?_⟩
  exact (h.bel.trans ⟨hg.os, hg.tape, hg.output, hg.size, fun j hj => hg.block j (by have := h.bel.size; omega) (hne j (by omega))⟩).setCell (show w.heap.size ≤ P by omega) _
/-- What the model has read of the first j segments. -/
def prS (p : Pap) (j : Nat) : Pap := ⟨p.kind, p.ref, selB (hasO p.kind) p.other eT, p.day, p.notes.take (j - 1), (p.lines.map (lnS p.kind)).take (j - 1 - p.notes.length)⟩
theorem prS_all (p : Pap) : prS p (1 + (p.notes.length + p.lines.length)) = rdP lnS p := by
  unfold prS rdP
  rw [List.take_of_length_le (by omega), List.take_of_length_le (by rw [List.length_map]; omega)]
  rfl
theorem prS_note {p : Pap} {k : Nat} {t : ByteArray} (h : p.notes[k]? = some t) : prS p (k + 1 + 1) = ⟨(prS p (k + 1)).kind, (prS p (k + 1)).ref, (prS p (k + 1)).other, (prS p (k + 1)).day, (prS p (k + 1)).notes ++ [t], (prS p (k + 1)).lines⟩ := by
  have hk := (List.getElem?_eq_some_iff.1 h).1
  unfold prS
  simp only [Nat.add_sub_cancel]
  rw [List.take_add_one, h, show k + 1 - p.notes.length = 0 by omega, show k - p.notes.length = 0 by omega]
  rfl
theorem prS_line {p : Pap} {k : Nat} {l : Ln} (h : p.lines[k]? = some l) : prS p (p.notes.length + k + 1 + 1) = ⟨(prS p (p.notes.length + k + 1)).kind, (prS p (p.notes.length + k + 1)).ref, (prS p (p.notes.length + k + 1)).other, (prS p (p.notes.length + k + 1)).day, (prS p (p.notes.length + k + 1)).notes, (prS p (p.notes.length + k + 1)).lines ++ [lnS p.kind l]⟩ := by
  unfold prS
  simp only [Nat.add_sub_cancel]
  have e1 : p.notes.take (p.notes.length + k + 1) = p.notes := List.take_of_length_le (by omega)
  have e2 : p.notes.take (p.notes.length + k) = p.notes := List.take_of_length_le (by omega)
  rw [e1, e2, show p.notes.length + k + 1 - p.notes.length = k + 1 by omega, show p.notes.length + k - p.notes.length = k by omega, List.take_add_one, List.getElem?_map, h]
  rfl
theorem prS_lines {p : Pap} (k : Nat) : (prS p (p.notes.length + k + 1)).lines = (p.lines.map (lnS p.kind)).take k := by
  unfold prS
  simp only [Nat.add_sub_cancel]
  rw [show p.notes.length + k - p.notes.length = k by omega]
end Go.Proofs.YtcdebinldmblkaaGreatDoor
