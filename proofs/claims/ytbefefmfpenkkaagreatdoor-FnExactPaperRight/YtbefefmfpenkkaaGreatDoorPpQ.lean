/- Plain lemmas: of a body that its table takes: its words, its numbers; the program's and the model's right papers are the same. -/
import Derived.Test.YtbefefmfpenkkaaGreatDoorPpP
namespace Go.Proofs.YtbefefmfpenkkaaGreatDoor
def formK (k : Int) : List UInt8 := if k = 1 then [110, 114, 113, 63, 110] else if k = 3 then [110, 113] else if k = 5 then [114, 110] else if k = 6 then [114, 122, 63, 116] else if k = 7 then [110, 110, 63, 110] else [110, 113, 63, 116]
def formD (k : Int) : List UInt8 := if hasO k = true then [114, 114, 100] else [114, 100]
theorem sTag_doc (k : Int) : sTag k ≠ sDOC := by
  unfold sTag sDOC
  split
  · exact fun e => absurd (bs_inj e) (by decide)
  · split <;> exact fun e => absurd (bs_inj e) (by decide)
theorem sTag_not (k : Int) : sTag k ≠ sNOT := by
  unfold sTag sNOT
  split
  · exact fun e => absurd (bs_inj e) (by decide)
  · split <;> exact fun e => absurd (bs_inj e) (by decide)
theorem sDOC_not : sDOC ≠ sNOT := fun e => absurd (bs_inj e) (by decide)
theorem seg_taken {k : Int} {body : List Seg} (h : (tcV k body).2.2 = 0) {g : Seg} (hg : g ∈ body) :
    (g.1 = sDOC ∧ frV (bs (formD k)) g.2 = -1) ∨ (g.1 = sNOT ∧ frV (bs [116]) g.2 = -1) ∨ (g.1 = sTag k ∧ frV (bs (formK k)) g.2 = -1) := by
  obtain ⟨j, hj⟩ := List.getElem?_of_mem hg
  obtain ⟨hk, _, hA⟩ := tcV_each h
  obtain ⟨i, r, hr, ht, hf⟩ := hA j g hj
  rcases rows_of hk hr with ⟨e1, _, e2⟩ | ⟨e1, _, e2⟩ | ⟨e1, _, _, _, e2⟩
  · exact .inl ⟨by rw [ht, e1]; rfl, by rw [e2] at hf; exact hf⟩
  · exact .inr (.inl ⟨by rw [ht, e1]; rfl, by rw [e2] at hf; exact hf⟩)
  · exact .inr (.inr ⟨by rw [ht, e1], by rw [e2] at hf; exact hf⟩)
theorem doc_taken {k : Int} {body : List Seg} (h : (tcV k body).2.2 = 0) {ws : List ByteArray} (hg : hdS sDOC ws ∈ body) : frV (bs (formD k)) (ws.map fun t => [t]) = -1 := by
  rcases seg_taken h hg with ⟨_, q⟩ | ⟨q, _⟩ | ⟨q, _⟩
  · exact q
  · exact absurd q sDOC_not
  · exact absurd q.symm (sTag_doc k)
theorem not_taken {k : Int} {body : List Seg} (h : (tcV k body).2.2 = 0) {ws : List ByteArray} (hg : hdS sNOT ws ∈ body) : frV (bs [116]) (ws.map fun t => [t]) = -1 := by
  rcases seg_taken h hg with ⟨q, _⟩ | ⟨_, q⟩ | ⟨q, _⟩
  · exact absurd q.symm sDOC_not
  · exact q
  · exact absurd q.symm (sTag_not k)
theorem lin_taken {k : Int} {body : List Seg} (h : (tcV k body).2.2 = 0) {ws : List ByteArray} (hg : hdS (sTag k) ws ∈ body) : frV (bs (formK k)) (ws.map fun t => [t]) = -1 := by
  rcases seg_taken h hg with ⟨q, _⟩ | ⟨q, _⟩ | ⟨_, q⟩
  · exact absurd q (sTag_doc k)
  · exact absurd q (sTag_not k)
  · exact q
/-- The words that a form takes. -/
theorem form_words {f ls : List UInt8} {m : Nat} {ws : List ByteArray} (hf : formF f = some (ls, m)) (h : frV (bs f) (ws.map fun t => [t]) = -1) : m ≤ ws.length ∧ ws.length ≤ ls.length ∧ ∀ (j : Nat) (c : UInt8) (t : ByteArray), ls[j]? = some c → ws[j]? = some t → wordB (c.toNat : Int) t = true := by
  obtain ⟨h1, h2, h3⟩ := frV_ok hf h
  rw [List.length_map] at h1 h2
  exact ⟨h1, h2, fun j c t hc ht => elem_word (h3 j c [t] hc (by rw [List.getElem?_map, ht]; rfl))⟩
theorem form_parts {f ls : List UInt8} {m : Nat} {ws : List ByteArray} (hf : formF f = some (ls, m)) (h : frV (bs f) (ws.map fun t => [t]) = -1) : ∀ t ∈ ws, partB t = true ∧ t.toList.isEmpty = false := fun t ht => by
  obtain ⟨h1, h2, h3⟩ := form_words hf h
  obtain ⟨j, hj⟩ := List.getElem?_of_mem ht
  have hl := (List.getElem?_eq_some_iff.1 hj).1
  exact word_part (h3 j _ t (List.getElem?_eq_getElem (show j < ls.length by omega)) hj)
theorem right_hd {tag : ByteArray} {ws : List ByteArray} (ht : tagB tag = true) (hl : ws.length ≤ 10) (h : ∀ t ∈ ws, partB t = true ∧ t.toList.isEmpty = false) : rightG tag (ws.map fun t => [t]) = true := by
  unfold rightG
  rw [ht]
  simp only [Bool.true_and, Bool.and_eq_true, decide_eq_true_eq, Bool.not_eq_true', List.length_map, List.all_eq_true]
  refine ⟨hl, ?_, fun e he => ?_⟩
  · unfold blankB
    rw [List.length_map]
    rcases Nat.eq_zero_or_pos ws.length with q | q
    · simp [q]
    · have hlt : ws.length - 1 < ws.length := by omega
      rw [List.getElem?_map, List.getElem?_eq_getElem hlt]
      have := (h _ (List.getElem_mem hlt)).2
      simp [blank1, isE, this]
  · obtain ⟨t, ht, rfl⟩ := List.mem_map.1 he
    have := (h t ht).1
    simp [elB, endsE, this]
theorem formF_D (k : Int) : ∃ ls m, formF (formD k) = some (ls, m) ∧ ls.length ≤ 10 ∧ ls = (if hasO k = true then [114, 114, 100] else [114, 100]) := by
  unfold formD
  split
  · exact ⟨[114, 114, 100], 3, by decide, by decide, rfl⟩
  · exact ⟨[114, 100], 2, by decide, by decide, rfl⟩
theorem formF_K (k : Int) : ∃ ls m, formF (formK k) = some (ls, m) ∧ ls.length ≤ 10 ∧ ls = (if k = 1 then [110, 114, 113, 110] else if k = 3 then [110, 113] else if k = 5 then [114, 110] else if k = 6 then [114, 122, 116] else if k = 7 then [110, 110, 110] else [110, 113, 116]) := by
  unfold formK
  split
  · exact ⟨[110, 114, 113, 110], 3, by decide, by decide, rfl⟩
  · split
    · exact ⟨[110, 113], 2, by decide, by decide, rfl⟩
    · split
      · exact ⟨[114, 110], 2, by decide, by decide, rfl⟩
      · split
        · exact ⟨[114, 122, 116], 2, by decide, by decide, rfl⟩
        · split
          · exact ⟨[110, 110, 110], 2, by decide, by decide, rfl⟩
          · exact ⟨[110, 113, 116], 2, by decide, by decide, rfl⟩
theorem tag_right (k : Int) : tagB (sTag k) = true := by
  unfold sTag
  split
  · decide
  · split <;> decide
/-- How many segments a table takes at most. -/
theorem tk_most (r : TRow) : ∀ (l : List Seg) (c : Nat), (c : Int) ≤ r.most → ((tk r l c).1 : Int) ≤ r.most := by
  intro l
  induction l with
  | nil => intro c hc; simpa [tk] using hc
  | cons g l ih =>
    intro c hc
    unfold tk
    split
    · exact hc
    · rename_i hm
      split
      · exact hc
      · refine ih (c + 1) ?_
        have : ¬ (c : Int) = r.most := fun e => hm (.inl e)
        omega
theorem tc_most (body : List Seg) : ∀ (rs : List TRow) (a : Nat) (last : ByteArray), (∀ r ∈ rs, 0 ≤ r.most) → (tc body rs a last).2.2 = 0 → body.length ≤ a + (rs.map fun r => r.most.toNat).sum := by
  intro rs
  induction rs with
  | nil =>
    intro a last _ h
    unfold tc at h
    split at h
    · omega
    · split at h <;> simp at h
  | cons r rs ih =>
    intro a last hr h
    unfold tc at h
    split at h
    · simp at h
    · split at h
      · simp at h
      · have h1 := ih _ _ (fun x hx => hr x (List.mem_cons_of_mem _ hx)) h
        have h0 := hr r (List.mem_cons_self ..)
        have h2 := tk_most r (body.drop a) 0 (by omega)
        simp only [List.map_cons, List.sum_cons]
        omega
theorem rows_most {k : Int} (hk : 1 ≤ k ∧ k ≤ 7) : (∀ r ∈ rowsI k, 0 ≤ r.most) ∧ ((rowsI k).map fun r => r.most.toNat).sum ≤ 23 := by
  obtain rfl | rfl | rfl | rfl | rfl | rfl | rfl : k = 1 ∨ k = 2 ∨ k = 3 ∨ k = 4 ∨ k = 5 ∨ k = 6 ∨ k = 7 := by omega
  all_goals exact ⟨by decide, by decide⟩
theorem tcV_most {k : Int} {body : List Seg} (h : (tcV k body).2.2 = 0) : body.length ≤ 23 := by
  obtain ⟨hk, h4, _⟩ := tcV_each h
  unfold tcV at h
  rw [if_neg (by omega), if_pos hk] at h
  have h1 := tc_most body (rowsI k) 0 _ (rows_most hk).1 h
  have h2 := (rows_most hk).2
  omega
theorem body_lines (f : Int → Ln → List ByteArray) (p : Pap) {l : Ln} (h : l ∈ p.lines) : hdS (sTag p.kind) (f p.kind l) ∈ bodyW f p := by
  unfold bodyW
  exact List.mem_cons_of_mem _ (List.mem_append_right _ (List.mem_map.2 ⟨l, h, rfl⟩))
theorem body_notes (f : Int → Ln → List ByteArray) (p : Pap) {t : ByteArray} (h : t ∈ p.notes) : hdS sNOT [t] ∈ bodyW f p := by
  unfold bodyW
  exact List.mem_cons_of_mem _ (List.mem_append_left _ (List.mem_map.2 ⟨t, h, rfl⟩))
theorem body_doc (f : Int → Ln → List ByteArray) (p : Pap) : hdS sDOC (docW p) ∈ bodyW f p := List.mem_cons_self ..
theorem body_len (f : Int → Ln → List ByteArray) (p : Pap) : (bodyW f p).length = 1 + (p.notes.length + p.lines.length) := by
  unfold bodyW
  simp only [List.length_cons, List.length_append, List.length_map]
  omega
/-- Each segment of a body that the table takes is right. -/
theorem body_right {f : Int → Ln → List ByteArray} {p : Pap} (h : (tcV p.kind (bodyW f p)).2.2 = 0) : ∀ g ∈ bodyW f p, rightG g.1 g.2 = true := by
  intro g hg
  have hg' := hg
  unfold bodyW at hg'
  obtain ⟨ls, m, hf, hl, _⟩ := formF_D p.kind
  obtain ⟨ls', m', hf', hl', _⟩ := formF_K p.kind
  rcases List.mem_cons.1 hg' with rfl | hg'
  · have q := doc_taken h hg
    exact right_hd (show tagB sDOC = true by decide) (by have := (form_words hf q).2.1; omega) (form_parts hf q)
  · rcases List.mem_append.1 hg' with hg' | hg'
    · obtain ⟨t, _, rfl⟩ := List.mem_map.1 hg'
      have q := not_taken h hg
      exact right_hd (show tagB sNOT = true by decide) (by simp) (form_parts (f := [116]) (ls := [116]) (m := 1) (by decide) q)
    · obtain ⟨l, _, rfl⟩ := List.mem_map.1 hg'
      have q := lin_taken h hg
      exact right_hd (tag_right p.kind) (by have := (form_words hf' q).2.1; omega) (form_parts hf' q)
theorem wordsS_eq {k : Int} {l : Ln} (h : k = 3 → l.note = eT) : wordsS k l = wordsI k l := by
  unfold wordsS
  split
  · rename_i hk
    rw [h hk, optT_eT, hk]
    rfl
  · rfl
theorem lnS_eq {k : Int} {l : Ln} (h : k = 3 → l.note = eT) : lnS k l = lnI k l := by
  unfold lnS
  split
  · rename_i hk
    rw [h hk, hk]
    rfl
  · rfl
theorem body_eq {p : Pap} (h : p.kind = 3 → ∀ l ∈ p.lines, l.note = eT) : bodyW wordsS p = bodyW wordsI p := by
  unfold bodyW
  congr 2
  apply List.map_congr_left
  intro l hl
  unfold lineG
  rw [wordsS_eq fun hk => h hk l hl]
theorem lines_eq {p : Pap} (h : p.kind = 3 → ∀ l ∈ p.lines, l.note = eT) : p.lines.map (lnS p.kind) = p.lines.map (lnI p.kind) := by
  apply List.map_congr_left
  intro l hl
  exact lnS_eq fun hk => h hk l hl
theorem rdP_eq {p : Pap} (h : p.kind = 3 → ∀ l ∈ p.lines, l.note = eT) : rdP lnS p = rdP lnI p := by
  unfold rdP
  rw [lines_eq h]
theorem note3 {p : Pap} (h : (tcV p.kind (bodyW wordsS p)).2.2 = 0) : p.kind = 3 → ∀ l ∈ p.lines, l.note = eT := by
  intro hk l hl
  have q := lin_taken h (body_lines wordsS p hl)
  rw [hk] at q
  have q2 := (form_words (f := [110, 113]) (ls := [110, 113]) (m := 2) (by decide) q).2.1
  apply optT_nil
  apply List.eq_nil_of_length_eq_zero
  have e : wordsS 3 l = [decS l.no, decS l.qty] ++ optT l.note := rfl
  rw [e, List.length_append] at q2
  simp only [List.length_cons, List.length_nil] at q2
  omega
theorem note3I {p : Pap} (h : rdP lnI p = p) : p.kind = 3 → ∀ l ∈ p.lines, l.note = eT := by
  intro hk l hl
  have e : p.lines.map (lnI p.kind) = p.lines := congrArg Pap.lines h
  rw [← e] at hl
  obtain ⟨m, _, rfl⟩ := List.mem_map.1 hl
  rw [hk]
  rfl
theorem papOk_iff (p : Pap) : PapOk p ↔ PapOkS p := by
  constructor
  · intro h
    have h3 := note3I h.sm
    have eb := body_eq h3
    have hl := tcV_most h.tb
    refine ⟨?_, h.ln, ?_, by rw [eb]; exact h.tb, by rw [lines_eq h3]; exact h.pl, by rw [rdP_eq h3]; exact h.sm⟩
    · rw [body_len] at hl
      omega
    · rw [eb]
      exact body_right h.tb
  · intro h
    have h3 := note3 h.tb
    have eb := body_eq h3
    exact ⟨(tcV_each h.tb).1, h.ln, by rw [← eb]; exact h.tb, by rw [← lines_eq h3]; exact h.pl, by rw [← rdP_eq h3]; exact h.sm⟩
end Go.Proofs.YtbefefmfpenkkaaGreatDoor
