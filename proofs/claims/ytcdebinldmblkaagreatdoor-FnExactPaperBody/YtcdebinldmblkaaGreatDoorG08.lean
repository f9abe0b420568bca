/- Texts of ours put together: IxQa, PpP, PpQ, PbP. -/
import Derived.Test.YtcdebinldmblkaaGreatDoorG07
import Derived.Test.YtcdebinldmblkaaGreatDoorG01
namespace Go.Proofs.YtcdebinldmblkaaGreatDoor
open Go.ChangeShapes Go.WideShapes Go.ChangeAt Go.RowKit
/-- A segment whose elements have one part each. -/
def hdS (tag : ByteArray) (ws : List ByteArray) : Seg := (tag, ws.map fun t => [t])
def tMSH : ByteArray := ⟨#[77, 83, 72]⟩
def tMST : ByteArray := ⟨#[77, 83, 84]⟩
def tGRH : ByteArray := ⟨#[71, 82, 72]⟩
def tGRT : ByteArray := ⟨#[71, 82, 84]⟩
def tIXH : ByteArray := ⟨#[73, 88, 72]⟩
def tIXT : ByteArray := ⟨#[73, 88, 84]⟩
def msgSegs (m : Msg) : List Seg := hdS tMSH [decS m.num] :: (m.body ++ [hdS tMST [decS m.body.length, decS m.num]])
def bunSegs (b : Bun) : List Seg := hdS tGRH [decS b.kind, decS b.num] :: (b.msgs.flatMap msgSegs ++ [hdS tGRT [decS b.msgs.length, decS b.num]])
def ixSegs (x : Ixc) : List Seg := hdS tIXH [x.frm, x.to, decS x.num] :: (x.buns.flatMap bunSegs ++ [hdS tIXT [decS x.buns.length, decS x.num]])
end Go.Proofs.YtcdebinldmblkaaGreatDoor
namespace Go.Proofs.YtcdebinldmblkaaGreatDoor
def eT : ByteArray := ⟨#[]⟩
def sDOC : ByteArray := bs [68, 79, 67]
def sNOT : ByteArray := bs [78, 79, 84]
def hasO (k : Int) : Bool := decide (k = 2 ∨ k = 3 ∨ k = 4)
def sTag (k : Int) : ByteArray := if k = 7 then bs [65, 67, 75] else if k = 5 ∨ k = 6 then bs [73, 84, 77] else bs [76, 73, 78]
def optN (n : Int) : List ByteArray := if n = 0 then [] else [decS n]
def optT (t : ByteArray) : List ByteArray := if t.toList.isEmpty = true then [] else [t]
/-- The words of a line, by kind. -/
def wordsI (k : Int) (l : Ln) : List ByteArray :=
  if k = 1 then [decS l.no, l.item, decS l.qty] ++ optN l.money
  else if k = 3 then [decS l.no, decS l.qty]
  else if k = 5 then [l.item, decS l.qty]
  else if k = 6 then [l.item, decS l.qty] ++ optT l.note
  else if k = 7 then [decS l.no, decS l.qty] ++ optN l.money
  else [decS l.no, decS l.qty] ++ optT l.note
def wordsS (k : Int) (l : Ln) : List ByteArray := if k = 3 then [decS l.no, decS l.qty] ++ optT l.note else wordsI k l
def docW (p : Pap) : List ByteArray := if hasO p.kind = true then [p.ref, p.other, decS p.day] else [p.ref, decS p.day]
def noteG (t : ByteArray) : Seg := hdS sNOT [t]
def lineG (f : Int → Ln → List ByteArray) (k : Int) (l : Ln) : Seg := hdS (sTag k) (f k l)
/-- The body. -/
def bodyW (f : Int → Ln → List ByteArray) (p : Pap) : List Seg := hdS sDOC (docW p) :: (p.notes.map noteG ++ p.lines.map (lineG f p.kind))
/-- What is read of a line's words. -/
def lnI (k : Int) (l : Ln) : Ln :=
  if k = 1 then ⟨l.no, l.item, l.qty, l.money, eT⟩
  else if k = 3 then ⟨l.no, eT, l.qty, 0, eT⟩
  else if k = 5 then ⟨0, l.item, l.qty, 0, eT⟩
  else if k = 6 then ⟨0, l.item, l.qty, 0, l.note⟩
  else if k = 7 then ⟨l.no, eT, l.qty, l.money, eT⟩
  else ⟨l.no, eT, l.qty, 0, l.note⟩
def lnS (k : Int) (l : Ln) : Ln := if k = 3 then ⟨l.no, eT, l.qty, 0, l.note⟩ else lnI k l
def rdP (f : Int → Ln → Ln) (p : Pap) : Pap := ⟨p.kind, p.ref, if hasO p.kind = true then p.other else eT, p.day, p.notes, p.lines.map (f p.kind)⟩
def risB (k : Int) : Bool := decide (1 ≤ k ∧ k ≤ 4)
def oncB (k : Int) : Bool := decide (k = 1 ∨ k = 5 ∨ k = 6)
/-- A line that may not stand at its place. -/
def badL (r o : Bool) (ls : List Ln) (i : Nat) : Prop := ∃ l, ls[i]? = some l ∧ ((r = true ∧ (l.no ≤ (if i = 0 then 0 else ((ls[i - 1]?).map Ln.no).getD 0) ∨ 999 < l.no)) ∨ (o = true ∧ ∃ (j : Nat) (m : Ln), j < i ∧ ls[j]? = some m ∧ m.item = l.item))
def PlcOk (k : Int) (ls : List Ln) : Prop := ∀ i, ¬ badL (risB k) (oncB k) ls i
/-- When the program's PaperRight says yes. -/
structure PapOk (p : Pap) : Prop where
  kd : 1 ≤ p.kind ∧ p.kind ≤ 7
  ln : p.lines.length ≤ 20
  tb : (tcV p.kind (bodyW wordsI p)).2.2 = 0
  pl : PlcOk p.kind (p.lines.map (lnI p.kind))
  sm : rdP lnI p = p
/-- When the model's does. -/
structure PapOkS (p : Pap) : Prop where
  nt : p.notes.length ≤ 40
  ln : p.lines.length ≤ 20
  rt : ∀ g ∈ bodyW wordsS p, rightG g.1 g.2 = true
  tb : (tcV p.kind (bodyW wordsS p)).2.2 = 0
  pl : PlcOk p.kind (p.lines.map (lnS p.kind))
  sm : rdP lnS p = p
open Classical in
noncomputable def papB (p : Pap) : Bool := decide (PapOk p)
theorem empty_eT {t : ByteArray} (h : t.toList.isEmpty = true) : t = eT := by
  have h1 : t.toList = [] := by simpa using h
  rw [ByteArray.toList_eq] at h1
  obtain ⟨⟨l⟩⟩ := t
  simp at h1
  subst h1
  rfl
theorem eT_empty : eT.toList.isEmpty = true := by rw [ByteArray.toList_eq]; rfl
theorem optT_nil {t : ByteArray} (h : optT t = []) : t = eT := by
  unfold optT at h
  split at h
  · rename_i q; exact empty_eT q
  · cases h
theorem optT_eT : optT eT = [] := by unfold optT; rw [if_pos eT_empty]
theorem numT_all (n : Int) : numT (decS n).data.toList = some n := by
  have e : (decS n).data.toList = Lib.itoa n := by simp [decS]
  rw [e]
  have hd : ∀ u : Nat, (Lib.decDigits u).head? ≠ some 45 := fun u g => by
    obtain ⟨hne, hall, _⟩ := plainD_facts (dec_plain u)
    cases hc : Lib.decDigits u with
    | nil => exact hne hc
    | cons c r =>
      rw [hc] at g hall
      simp only [List.head?_cons, Option.some.injEq] at g
      subst g
      simp [dgOk] at hall
  rcases Int.lt_or_le n 0 with h | h
  · unfold Lib.itoa
    rw [if_pos h]
    unfold numT
    rw [if_pos (by rfl)]
    have hp := dec_plain n.natAbs
    have h48 : (Lib.decDigits n.natAbs).head? ≠ some 48 := fun g => by
      have hl := dec_head n.natAbs g
      have hv := dec_val n.natAbs
      cases hc : Lib.decDigits n.natAbs with
      | nil => rw [hc] at hl; simp at hl
      | cons c r =>
        rw [hc] at hl g hv
        simp only [List.length_cons] at hl
        have hr : r = [] := List.eq_nil_of_length_eq_zero (by omega)
        subst hr
        simp only [List.head?_cons, Option.some.injEq] at g
        subst g
        simp [dgVal_cons, dgVal_nil] at hv
        omega
    have h48' : ((Lib.decDigits n.natAbs).head? != some 48) = true := by simpa using h48
    rw [if_pos (by show (plainD (Lib.decDigits n.natAbs) && ((Lib.decDigits n.natAbs).head? != some 48)) = true; rw [hp, h48']; rfl)]
    show some (-(dgVal 0 (Lib.decDigits n.natAbs) : Int)) = some n
    rw [dec_val]
    congr 1
    omega
  · obtain ⟨k, rfl⟩ := Int.eq_ofNat_of_zero_le h
    have e1 : Lib.itoa (k : Int) = Lib.decDigits k := by unfold Lib.itoa; rw [if_neg (by omega)]; rfl
    have e2 : Lib.itoa (Int.ofNat k) = Lib.decDigits k := e1
    first | rw [e1] | rw [e2]
    unfold numT
    rw [if_neg (hd k), if_pos (dec_plain k), dec_val]
theorem inB_dec {n lo hi : Int} (h : inB (decS n).data.toList lo hi = true) : lo ≤ n ∧ n ≤ hi := by
  unfold inB at h
  rw [numT_all] at h
  simpa using h
theorem zB_dec {n : Int} (h : zB (decS n).data.toList = true) : -1000000 ≤ n ∧ n ≤ 1000000 ∧ n ≠ 0 := by
  unfold zB at h
  rw [numT_all] at h
  simpa using h
/-- A numeral of at most eleven signs is a part that is not empty. -/
theorem num_part {t : ByteArray} {v : Int} (h : numT t.data.toList = some v) (h0 : -1000000000 ≤ v) (h1 : v ≤ 1000000000) : partB t = true ∧ t.toList.isEmpty = false := by
  have key : ∀ l : List UInt8, plainD l = true → dgVal 0 l ≤ 1000000000 → l ≠ [] ∧ l.length ≤ 10 ∧ ∀ c ∈ l, 48 ≤ c.toNat ∧ c.toNat ≤ 57 := fun l hp hv => by
    obtain ⟨hne, hall, _⟩ := plainD_facts hp
    refine ⟨hne, ?_, fun c hc => ?_⟩
    · have := dec_len 9 (dgVal 0 l) (by omega)
      rw [plain_dec hp] at this
      omega
    · have := List.all_eq_true.1 hall c hc
      simpa [dgOk] using this
  have hsz : t.size = t.data.toList.length := rfl
  have fin : t.data.toList ≠ [] ∧ t.data.toList.length ≤ 11 ∧ ∀ c ∈ t.data.toList, 32 ≤ c.toNat ∧ c.toNat ≤ 126 := by
    unfold numT at h
    split at h
    · rename_i h45
      split at h
      · rename_i hp
        cases h
        obtain ⟨k1, k2, k3⟩ := key _ (by simp only [Bool.and_eq_true] at hp; exact hp.1) (by omega)
        cases hc : t.data.toList with
        | nil => rw [hc] at h45; simp at h45
        | cons c r =>
          rw [hc] at h45 k2 k3
          simp only [List.head?_cons, Option.some.injEq] at h45
          subst h45
          simp only [List.tail_cons] at k2 k3
          refine ⟨by simp, by simp only [List.length_cons]; omega, fun x hx => ?_⟩
          rcases List.mem_cons.1 hx with rfl | hx
          · decide
          · have := k3 x hx; omega
      · cases h
    · split at h
      · rename_i hp
        cases h
        obtain ⟨k1, k2, k3⟩ := key _ hp (by omega)
        exact ⟨k1, by omega, fun x hx => by have := k3 x hx; omega⟩
      · cases h
  refine ⟨?_, ?_⟩
  · unfold partB rngB
    simp only [Bool.and_eq_true, decide_eq_true_eq, List.all_eq_true]
    exact ⟨by omega, fun x hx => fin.2.2 x hx⟩
  · rw [ByteArray.toList_eq]
    cases hc : t.data.toList with
    | nil => exact absurd hc fin.1
    | cons c r => rfl
theorem name_part {t : ByteArray} (h : nameB t = true) : partB t = true ∧ t.toList.isEmpty = false := by
  unfold nameB at h
  simp only [Bool.and_eq_true, decide_eq_true_eq, List.all_eq_true] at h
  have hsz : t.size = t.data.toList.length := rfl
  refine ⟨?_, ?_⟩
  · unfold partB rngB
    simp only [Bool.and_eq_true, decide_eq_true_eq, List.all_eq_true]
    refine ⟨by omega, fun x hx => ?_⟩
    have := h.2 x hx
    simp only [nmOk, decide_eq_true_eq] at this
    omega
  · rw [ByteArray.toList_eq]
    cases hc : t.data.toList with
    | nil =>
      have : t.data.toList.length = 0 := by rw [hc]; rfl
      omega
    | cons c r => rfl
theorem word_part {c : Int} {t : ByteArray} (h : wordB c t = true) : partB t = true ∧ t.toList.isEmpty = false := by
  have hin : ∀ lo hi : Int, -1000000000 ≤ lo → hi ≤ 1000000000 → inB t.data.toList lo hi = true → partB t = true ∧ t.toList.isEmpty = false := fun lo hi q1 q2 q => by
    unfold inB at q
    split at q
    · rename_i v hv
      have : lo ≤ v ∧ v ≤ hi := by simpa using q
      exact num_part hv (by omega) (by omega)
    · cases q
  unfold wordB at h
  split at h
  · exact name_part h
  · split at h
    · simp only [Bool.and_eq_true, Bool.not_eq_true', emptyB] at h
      exact ⟨h.2, h.1⟩
    · split at h
      · exact hin _ _ (by omega) (by omega) h
      · split at h
        · unfold zB at h
          split at h
          · rename_i v hv
            have : -1000000 ≤ v ∧ v ≤ 1000000 ∧ v ≠ 0 := by simpa using h
            exact num_part hv (by omega) (by omega)
          · cases h
        · split at h
          · exact hin _ _ (by omega) (by omega) h
          · exact hin _ _ (by omega) (by omega) h
/-- What it is that a form takes elements. -/
theorem frV_ok {f : List UInt8} {ls : List UInt8} {m : Nat} {es : List (List ByteArray)} (hf : formF f = some (ls, m)) (h : frV (bs f) es = -1) : m ≤ es.length ∧ es.length ≤ ls.length ∧ ∀ (j : Nat) (c : UInt8) (e : List ByteArray), ls[j]? = some c → es[j]? = some e → elemB (c.toNat : Int) e = true := by
  have hb : (bs f).data.toList = f := rfl
  unfold frV at h
  rw [hb, hf] at h
  split at h
  · cases h
  · have hO := frGo_out ls m es _ 0 rfl (by omega) (fun j hj => by omega)
    rw [List.drop_zero] at hO
    have h' : frGo ls m es 0 = -1 := h
    rw [h'] at hO
    rcases hO with ⟨k, _, hk, _⟩ | ⟨ha, hr⟩
    · omega
    · have hm : m ≤ es.length := by
        rcases hr with ⟨_, q⟩ | ⟨q, _⟩
        · omega
        · exact q
      refine ⟨hm, ?_, fun j c e hc he => ?_⟩
      · rcases Nat.lt_or_ge ls.length es.length with q | q
        · exact absurd (.inl (Nat.le_refl _)) (ha ls.length q)
        · exact q
      · have hj := (List.getElem?_eq_some_iff.1 he).1
        have := ha j hj
        unfold badAt at this
        rw [hc, he] at this
        simp only [Option.getD_some] at this
        cases q : elemB (c.toNat : Int) e with
        | true => rfl
        | false => exact absurd (.inr q) this
theorem elem_word {c : Int} {t : ByteArray} (h : elemB c [t] = true) : wordB c t = true := by
  unfold elemB at h
  simp only [Bool.and_eq_true] at h
  exact h.2
/-- Rows of the table of a kind: tag and form. -/
theorem rows_of {k : Int} (hk : 1 ≤ k ∧ k ≤ 7) {i : Nat} {r : TRow} (h : (rowsI k)[i]? = some r) :
    (r.tag = [68, 79, 67] ∧ r.most = 1 ∧ r.form = (if hasO k = true then [114, 114, 100] else [114, 100])) ∨ (r.tag = [78, 79, 84] ∧ r.most = 2 ∧ r.form = [116]) ∨
    (bs r.tag = sTag k ∧ r.most ≤ 20 ∧ r.tag ≠ [68, 79, 67] ∧ r.tag ≠ [78, 79, 84] ∧ r.form = (if k = 1 then [110, 114, 113, 63, 110] else if k = 3 then [110, 113] else if k = 5 then [114, 110] else if k = 6 then [114, 122, 63, 116] else if k = 7 then [110, 110, 63, 110] else [110, 113, 63, 116])) := by
  obtain rfl | rfl | rfl | rfl | rfl | rfl | rfl : k = 1 ∨ k = 2 ∨ k = 3 ∨ k = 4 ∨ k = 5 ∨ k = 6 ∨ k = 7 := by omega
  all_goals
    rcases i with _ | _ | _ | i
    all_goals first | (cases h; exact .inl ⟨rfl, rfl, rfl⟩) | (cases h; exact .inr (.inl ⟨rfl, rfl, rfl⟩)) | (cases h; exact .inr (.inr ⟨rfl, by decide, by decide, by decide, rfl⟩)) | (exfalso; revert h; simp [rowsI, rowsK])
end Go.Proofs.YtcdebinldmblkaaGreatDoor
namespace Go.Proofs.YtcdebinldmblkaaGreatDoor
def formK (k : Int) : List UInt8 := if k = 1 then [110, 114, 113, 63, 110] else if k = 3 then [110, 113] else if k = 5 then [114, 110] else if k = 6 then [114, 122, 63, 116] else if k = 7 then [110, 110, 63, 110] else [110, 113, 63, 116]
def formD (k : Int) : List UInt8 := if hasO k = true then [114, 114, 100] else [114, 100]
theorem sTag_doc (k : Int) : sTag k ≠ sDOC := by
  unfold sTag sDOC
  split
  · exact fun e => absurd (bs_inj e) (by decide)
  · split <;> exact fun e => absurd (bs_inj e) (by decide)
theorem sTag_not (k : Int) : sTag k ≠ sNOT := by
  unfold sTag sNOT
  split
  · exact fun e => absurd (bs_inj e) (by decide)
  · split <;> exact fun e => absurd (bs_inj e) (by decide)
theorem sDOC_not : sDOC ≠ sNOT := fun e => absurd (bs_inj e) (by decide)
theorem seg_taken {k : Int} {body : List Seg} (h : (tcV k body).2.2 = 0) {g : Seg} (hg : g ∈ body) :
    (g.1 = sDOC ∧ frV (bs (formD k)) g.2 = -1) ∨ (g.1 = sNOT ∧ frV (bs [116]) g.2 = -1) ∨ (g.1 = sTag k ∧ frV (bs (formK k)) g.2 = -1) := by
  obtain ⟨j, hj⟩ := List.getElem?_of_mem hg
  obtain ⟨hk, _, hA⟩ := tcV_each h
  obtain ⟨i, r, hr, ht, hf⟩ := hA j g hj
  rcases rows_of hk hr with ⟨e1, _, e2⟩ | ⟨e1, _, e2⟩ | ⟨e1, _, _, _, e2⟩
  · exact .inl ⟨by rw [ht, e1]; rfl, by rw [e2] at hf; exact hf⟩
  · exact .inr (.inl ⟨by rw [ht, e1]; rfl, by rw [e2] at hf; exact hf⟩)
  · exact .inr (.inr ⟨by rw [ht, e1], by rw [e2] at hf; exact hf⟩)
theorem doc_taken {k : Int} {body : List Seg} (h : (tcV k body).2.2 = 0) {ws : List ByteArray} (hg : hdS sDOC ws ∈ body) : frV (bs (formD k)) (ws.map fun t => [t]) = -1 := by
  rcases seg_taken h hg with ⟨_, q⟩ | ⟨q, _⟩ | ⟨q, _⟩
  · exact q
  · exact absurd q sDOC_not
  · exact absurd q.symm (sTag_doc k)
theorem not_taken {k : Int} {body : List Seg} (h : (tcV k body).2.2 = 0) {ws : List ByteArray} (hg : hdS sNOT ws ∈ body) : frV (bs [116]) (ws.map fun t => [t]) = -1 := by
  rcases seg_taken h hg with ⟨q, _⟩ | ⟨_, q⟩ | ⟨q, _⟩
  · exact absurd q.symm sDOC_not
  · exact q
  · exact absurd q.symm (sTag_not k)
theorem lin_taken {k : Int} {body : List Seg} (h : (tcV k body).2.2 = 0) {ws : List ByteArray} (hg : hdS (sTag k) ws ∈ body) : frV (bs (formK k)) (ws.map fun t => [t]) = -1 := by
  rcases seg_taken h hg with ⟨q, _⟩ | ⟨q, _⟩ | ⟨_, q⟩
  · exact absurd q (sTag_doc k)
  · exact absurd q (sTag_not k)
  · exact q
/-- The words that a form takes. -/
theorem form_words {f ls : List UInt8} {m : Nat} {ws : List ByteArray} (hf : formF f = some (ls, m)) (h : frV (bs f) (ws.map fun t => [t]) = -1) : m ≤ ws.length ∧ ws.length ≤ ls.length ∧ ∀ (j : Nat) (c : UInt8) (t : ByteArray), ls[j]? = some c → ws[j]? = some t → wordB (c.toNat : Int) t = true := by
  obtain ⟨h1, h2, h3⟩ := frV_ok hf h
  rw [List.length_map] at h1 h2
  exact ⟨h1, h2, fun j c t hc ht => elem_word (h3 j c [t] hc (by rw [List.getElem?_map, ht]; rfl))⟩
theorem form_parts {f ls : List UInt8} {m : Nat} {ws : List ByteArray} (hf : formF f = some (ls, m)) (h : frV (bs f) (ws.map fun t => [t]) = -1) : ∀ t ∈ ws, partB t = true ∧ t.toList.isEmpty = false := fun t ht => by
  obtain ⟨h1, h2, h3⟩ := form_words hf h
  obtain ⟨j, hj⟩ := List.getElem?_of_mem ht
  have hl := (List.getElem?_eq_some_iff.1 hj).1
  exact word_part (h3 j _ t (List.getElem?_eq_getElem (show j < ls.length by omega)) hj)
theorem right_hd {tag : ByteArray} {ws : List ByteArray} (ht : tagB tag = true) (hl : ws.length ≤ 10) (h : ∀ t ∈ ws, partB t = true ∧ t.toList.isEmpty = false) : rightG tag (ws.map fun t => [t]) = true := by
  unfold rightG
  rw [ht]
  simp only [Bool.true_and, Bool.and_eq_true, decide_eq_true_eq, Bool.not_eq_true', List.length_map, List.all_eq_true]
  refine ⟨hl, ?_, fun e he => ?_⟩
  · unfold blankB
    rw [List.length_map]
    rcases Nat.eq_zero_or_pos ws.length with q | q
    · simp [q]
    · have hlt : ws.length - 1 < ws.length := by omega
      rw [List.getElem?_map, List.getElem?_eq_getElem hlt]
      have := (h _ (List.getElem_mem hlt)).2
      simp [blank1, isE, this]
  · obtain ⟨t, ht, rfl⟩ := List.mem_map.1 he
    have := (h t ht).1
    simp [elB, endsE, this]
theorem formF_D (k : Int) : ∃ ls m, formF (formD k) = some (ls, m) ∧ ls.length ≤ 10 ∧ ls = (if hasO k = true then [114, 114, 100] else [114, 100]) := by
  unfold formD
  split
  · exact ⟨[114, 114, 100], 3, by decide, by decide, rfl⟩
  · exact ⟨[114, 100], 2, by decide, by decide, rfl⟩
theorem formF_K (k : Int) : ∃ ls m, formF (formK k) = some (ls, m) ∧ ls.length ≤ 10 ∧ ls = (if k = 1 then [110, 114, 113, 110] else if k = 3 then [110, 113] else if k = 5 then [114, 110] else if k = 6 then [114, 122, 116] else if k = 7 then [110, 110, 110] else [110, 113, 116]) := by
  unfold formK
  split
  · exact ⟨[110, 114, 113, 110], 3, by decide, by decide, rfl⟩
  · split
    · exact ⟨[110, 113], 2, by decide, by decide, rfl⟩
    · split
      · exact ⟨[114, 110], 2, by decide, by decide, rfl⟩
      · split
        · exact ⟨[114, 122, 116], 2, by decide, by decide, rfl⟩
        · split
          · exact ⟨[110, 110, 110], 2, by decide, by decide, rfl⟩
          · exact ⟨[110, 113, 116], 2, by decide, by decide, rfl⟩
theorem tag_right (k : Int) : tagB (sTag k) = true := by
  unfold sTag
  split
  · decide
  · split <;> decide
/-- How many segments a table takes at most. -/
theorem tk_most (r : TRow) : ∀ (l : List Seg) (c : Nat), (c : Int) ≤ r.most → ((tk r l c).1 : Int) ≤ r.most := by
  intro l
  induction l with
  | nil => intro c hc; simpa [tk] using hc
  | cons g l ih =>
    intro c hc
    unfold tk
    split
    · exact hc
    · rename_i hm
      split
      · exact hc
      · refine ih (c + 1) ?_
        have : ¬ (c : Int) = r.most := fun e => hm (.inl e)
        omega
theorem tc_most (body : List Seg) : ∀ (rs : List TRow) (a : Nat) (last : ByteArray), (∀ r ∈ rs, 0 ≤ r.most) → (tc body rs a last).2.2 = 0 → body.length ≤ a + (rs.map fun r => r.most.toNat).sum := by
  intro rs
  induction rs with
  | nil =>
    intro a last _ h
    unfold tc at h
    split at h
    · omega
    · split at h <;> simp at h
  | cons r rs ih =>
    intro a last hr h
    unfold tc at h
    split at h
    · simp at h
    · split at h
      · simp at h
      · have h1 := ih _ _ (fun x hx => hr x (List.mem_cons_of_mem _ hx)) h
        have h0 := hr r (List.mem_cons_self ..)
        have h2 := tk_most r (body.drop a) 0 (by omega)
        simp only [List.map_cons, List.sum_cons]
        omega
theorem rows_most {k : Int} (hk : 1 ≤ k ∧ k ≤ 7) : (∀ r ∈ rowsI k, 0 ≤ r.most) ∧ ((rowsI k).map fun r => r.most.toNat).sum ≤ 23 := by
  obtain rfl | rfl | rfl | rfl | rfl | rfl | rfl : k = 1 ∨ k = 2 ∨ k = 3 ∨ k = 4 ∨ k = 5 ∨ k = 6 ∨ k = 7 := by omega
  all_goals exact ⟨by decide, by decide⟩
theorem tcV_most {k : Int} {body : List Seg} (h : (tcV k body).2.2 = 0) : body.length ≤ 23 := by
  obtain ⟨hk, h4, _⟩ := tcV_each h
  unfold tcV at h
  rw [if_neg (by omega), if_pos hk] at h
  have h1 := tc_most body (rowsI k) 0 _ (rows_most hk).1 h
  have h2 := (rows_most hk).2
  omega
theorem body_lines (f : Int → Ln → List ByteArray) (p : Pap) {l : Ln} (h : l ∈ p.lines) : hdS (sTag p.kind) (f p.kind l) ∈ bodyW f p := by
  unfold bodyW
  exact List.mem_cons_of_mem _ (List.mem_append_right _ (List.mem_map.2 ⟨l, h, rfl⟩))
theorem body_notes (f : Int → Ln → List ByteArray) (p : Pap) {t : ByteArray} (h : t ∈ p.notes) : hdS sNOT [t] ∈ bodyW f p := by
  unfold bodyW
  exact List.mem_cons_of_mem _ (List.mem_append_left _ (List.mem_map.2 ⟨t, h, rfl⟩))
theorem body_doc (f : Int → Ln → List ByteArray) (p : Pap) : hdS sDOC (docW p) ∈ bodyW f p := List.mem_cons_self ..
theorem body_len (f : Int → Ln → List ByteArray) (p : Pap) : (bodyW f p).length = 1 + (p.notes.length + p.lines.length) := by
  unfold bodyW
  simp only [List.length_cons, List.length_append, List.length_map]
  omega
/-- Each segment of a body that the table takes is right. -/
theorem body_right {f : Int → Ln → List ByteArray} {p : Pap} (h : (tcV p.kind (bodyW f p)).2.2 = 0) : ∀ g ∈ bodyW f p, rightG g.1 g.2 = true := by
  intro g hg
  have hg' := hg
  unfold bodyW at hg'
  obtain ⟨ls, m, hf, hl, _⟩ := formF_D p.kind
  obtain ⟨ls', m', hf', hl', _⟩ := formF_K p.kind
  rcases List.mem_cons.1 hg' with rfl | hg'
  · have q := doc_taken h hg
    exact right_hd (show tagB sDOC = true by decide) (by have := (form_words hf q).2.1; omega) (form_parts hf q)
  · rcases List.mem_append.1 hg' with hg' | hg'
    · obtain ⟨t, _, rfl⟩ := List.mem_map.1 hg'
      have q := not_taken h hg
      exact right_hd (show tagB sNOT = true by decide) (by simp) (form_parts (f := [116]) (ls := [116]) (m := 1) (by decide) q)
    · obtain ⟨l, _, rfl⟩ := List.mem_map.1 hg'
      have q := lin_taken h hg
      exact right_hd (tag_right p.kind) (by have := (form_words hf' q).2.1; omega) (form_parts hf' q)
theorem wordsS_eq {k : Int} {l : Ln} (h : k = 3 → l.note = eT) : wordsS k l = wordsI k l := by
  unfold wordsS
  split
  · rename_i hk
    rw [h hk, optT_eT, hk]
    rfl
  · rfl
theorem lnS_eq {k : Int} {l : Ln} (h : k = 3 → l.note = eT) : lnS k l = lnI k l := by
  unfold lnS
  split
  · rename_i hk
    rw [h hk, hk]
    rfl
  · rfl
theorem body_eq {p : Pap} (h : p.kind = 3 → ∀ l ∈ p.lines, l.note = eT) : bodyW wordsS p = bodyW wordsI p := by
  unfold bodyW
  congr 2
  apply List.map_congr_left
  intro l hl
  unfold lineG
  rw [wordsS_eq fun hk => h hk l hl]
theorem lines_eq {p : Pap} (h : p.kind = 3 → ∀ l ∈ p.lines, l.note = eT) : p.lines.map (lnS p.kind) = p.lines.map (lnI p.kind) := by
  apply List.map_congr_left
  intro l hl
  exact lnS_eq fun hk => h hk l hl
theorem rdP_eq {p : Pap} (h : p.kind = 3 → ∀ l ∈ p.lines, l.note = eT) : rdP lnS p = rdP lnI p := by
  unfold rdP
  rw [lines_eq h]
theorem note3 {p : Pap} (h : (tcV p.kind (bodyW wordsS p)).2.2 = 0) : p.kind = 3 → ∀ l ∈ p.lines, l.note = eT := by
  intro hk l hl
  have q := lin_taken h (body_lines wordsS p hl)
  rw [hk] at q
  have q2 := (form_words (f := [110, 113]) (ls := [110, 113]) (m := 2) (by decide) q).2.1
  apply optT_nil
  apply List.eq_nil_of_length_eq_zero
  have e : wordsS 3 l = [decS l.no, decS l.qty] ++ optT l.note := rfl
  rw [e, List.length_append] at q2
  simp only [List.length_cons, List.length_nil] at q2
  omega
theorem note3I {p : Pap} (h : rdP lnI p = p) : p.kind = 3 → ∀ l ∈ p.lines, l.note = eT := by
  intro hk l hl
  have e : p.lines.map (lnI p.kind) = p.lines := congrArg Pap.lines h
  rw [← e] at hl
  obtain ⟨m, _, rfl⟩ := List.mem_map.1 hl
  rw [hk]
  rfl
theorem papOk_iff (p : Pap) : PapOk p ↔ PapOkS p := by
  constructor
  · intro h
    have h3 := note3I h.sm
    have eb := body_eq h3
    have hl := tcV_most h.tb
    refine ⟨?_, h.ln, ?_, by rw [eb]; exact h.tb, by rw [lines_eq h3]; exact h.pl, by rw [rdP_eq h3]; exact h.sm⟩
    · rw [body_len] at hl
      omega
    · rw [eb]
      exact body_right h.tb
  · intro h
    have h3 := note3 h.tb
    have eb := body_eq h3
    exact ⟨(tcV_each h.tb).1, h.ln, by rw [← eb]; exact h.tb, by rw [← lines_eq h3]; exact h.pl, by rw [← rdP_eq h3]; exact h.sm⟩
end Go.Proofs.YtcdebinldmblkaaGreatDoor
namespace Go.Proofs.YtcdebinldmblkaaGreatDoor
open Go.ChangeShapes Go.WideShapes Go.ChangeAt Go.RowKit
theorem right_boundsP {tag : ByteArray} {es : List (List ByteArray)} (h : rightG tag es = true) : tag.size = 3 ∧ es.length ≤ 10 ∧ ∀ e ∈ es, 0 < e.length ∧ e.length ≤ 4 ∧ ∀ t ∈ e, t.size ≤ 40 := by
  unfold rightG tagB at h
  simp only [Bool.and_eq_true, decide_eq_true_eq, List.all_eq_true] at h
  refine ⟨h.1.1, h.2.1, fun e he => ?_⟩
  have hb := h.2.2.2 e he
  unfold elB at hb
  simp only [Bool.and_eq_true, decide_eq_true_eq, List.all_eq_true] at hb
  refine ⟨by omega, hb.2.1, fun t ht => ?_⟩
  have := hb.2.2.2 t ht
  unfold partB at this
  simp only [Bool.and_eq_true, decide_eq_true_eq] at this
  exact this.1
/-- What PaperBody tells. -/
noncomputable def pbG (p : Pap) : List Seg := bif papB p then bodyW wordsI p else []
theorem papB_ok {p : Pap} (h : papB p = true) : PapOk p := by simpa [papB] using h
theorem pbG_bd (p : Pap) : (∀ g ∈ pbG p, (∀ e ∈ g.2, e.length ≤ 4 ∧ ∀ t ∈ e, t.size ≤ 40) ∧ g.2.length ≤ 10 ∧ g.1.size = 3) ∧ (pbG p).length ≤ 61 := by
  unfold pbG
  cases h : papB p
  · exact ⟨fun g hg => by simp at hg, by simp⟩
  · have h1 := papB_ok h
    have h2 := (papOk_iff p).1 h1
    have eb := body_eq (note3I h1.sm)
    simp only [cond_true]
    refine ⟨fun g hg => ?_, ?_⟩
    · rw [← eb] at hg
      obtain ⟨k1, k2, k3⟩ := right_boundsP (h2.rt g hg)
      exact ⟨fun e he => ⟨(k3 e he).2.1, (k3 e he).2.2⟩, k2, k1⟩
    · rw [body_len]
      have := h2.nt
      have := h2.ln
      omega
end Go.Proofs.YtcdebinldmblkaaGreatDoor
