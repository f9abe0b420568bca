/- Texts of ours put together: TcP, TcQ, DecD, IxQa, PpP, PclI, IxTa, ShCloneS, ElBy, ShClone. -/
import Derived.Test.YtkaolpnbddjdpaaGreatDoorG04
import Derived.Test.YtkaolpnbddjdpaaGreatDoorG00
import Derived.Test.YtkaolpnbddjdpaaGreatDoorG05
import Derived.Lib.AppendIntMem
import Derived.Test.YtkaolpnbddjdpaaGreatDoorRows
import Derived.Test.YtkaolpnbddjdpaaGreatDoorG02
import Derived.Test.YtkaolpnbddjdpaaGreatDoorG03
import Derived.Deep.RegionHeld3
import Derived.Deep.RegionLaw
import Derived.Deep.AppendLies
import Derived.Shelf.Slices.Clone
import Derived.RangeFuncBox
import Derived.Shelf.LaysM
import Derived.Shelf.Strconv.Clone
namespace Go.Proofs.YtkaolpnbddjdpaaGreatDoor
def frGo (ls : List UInt8) (m : Nat) : List (List ByteArray) → Nat → Int
  | [], k => if k < m then (k : Int) else -1
  | e :: r, k => if ls.length ≤ k then (k : Int) else if elemB ((ls[k]?.getD 0).toNat : Int) e = false then (k : Int) else frGo ls m r (k + 1)
def frV (f : ByteArray) (es : List (List ByteArray)) : Int := if 20000 < f.size then 0 else match formF f.data.toList with
  | none => 0
  | some (ls, m) => frGo ls m es 0
theorem frGo_out (ls : List UInt8) (m : Nat) (es : List (List ByteArray)) : ∀ (n k : Nat), es.length - k = n → k ≤ es.length → (∀ j, j < k → ¬ badAt ls es j) → FrOut ls m es (frGo ls m (es.drop k) k) := by
  intro n
  induction n with
  | zero =>
    intro k hn hk hA
    obtain rfl : k = es.length := by omega
    rw [List.drop_length, frGo]
    refine .inr ⟨hA, ?_⟩
    by_cases h : es.length < m
    · rw [if_pos h]; exact .inl ⟨h, rfl⟩
    · rw [if_neg h]; exact .inr ⟨by omega, rfl⟩
  | succ n ih =>
    intro k hn hk hA
    have hlt : k < es.length := by omega
    rw [List.drop_eq_getElem_cons hlt, frGo]
    by_cases h1 : ls.length ≤ k
    · rw [if_pos h1]; exact .inl ⟨k, hlt, rfl, .inl h1, hA⟩
    · rw [if_neg h1]
      by_cases h2 : elemB ((ls[k]?.getD 0).toNat : Int) es[k] = false
      · rw [if_pos h2]
        refine .inl ⟨k, hlt, rfl, .inr ?_, hA⟩
        rw [List.getElem?_eq_getElem hlt]
        exact h2
      · rw [if_neg h2]
        refine ih (k + 1) (by omega) (by omega) fun j hj => ?_
        rcases Nat.lt_or_ge j k with g | g
        · exact hA j g
        · obtain rfl : j = k := by omega
          rintro (g | g)
          · exact h1 g
          · rw [List.getElem?_eq_getElem hlt] at g
            exact h2 g
theorem frV_is {f : ByteArray} {es : List (List ByteArray)} {r : Int} (h : FrO f es r) : r = frV f es := by
  refine FrO.one h ?_
  unfold FrO frV
  by_cases hf : 20000 < f.size
  · rw [if_pos hf, if_pos hf]
  · rw [if_neg hf, if_neg hf]
    cases hc : formF f.data.toList with
    | none => rfl
    | some p => exact frGo_out p.1 p.2 es _ 0 rfl (by omega) (fun j hj => by omega)
/-- How many segments are the row's, and the place of an element that is none. -/
def tk (r : TRow) : List Seg → Nat → Nat × Int
  | [], c => (c, -1)
  | g :: l, c => if (c : Int) = r.most ∨ g.1 ≠ bs r.tag then (c, -1) else if 0 ≤ frV (bs r.form) g.2 then (c, frV (bs r.form) g.2) else tk r l (c + 1)
/-- What the table tells: at, el, code. -/
def tc (body : List Seg) : List TRow → Nat → ByteArray → Int × Int × Int
  | [], a, last => if a = body.length then (0, 0, 0) else if (body[a]?.map (·.1)).getD ⟨#[]⟩ = last then ((a : Int), 0, 7) else ((a : Int), 0, 3)
  | r :: rs, a, _ =>
    if 0 ≤ (tk r (body.drop a) 0).2 then ((a : Int) + ((tk r (body.drop a) 0).1 : Int), (tk r (body.drop a) 0).2, 3)
    else if ((tk r (body.drop a) 0).1 : Int) < r.least then ((a : Int) + ((tk r (body.drop a) 0).1 : Int), 0, 4)
    else tc body rs (a + (tk r (body.drop a) 0).1) (bs r.tag)
def tcV (n : Int) (body : List Seg) : Int × Int × Int := if 400 < body.length then (0, 0, 2) else if 1 ≤ n ∧ n ≤ 7 then tc body (rowsI n) 0 (bs []) else (0, 0, 1)
theorem tk_le (r : TRow) : ∀ (l : List Seg) (c : Nat), c ≤ (tk r l c).1 ∧ (tk r l c).1 ≤ c + l.length ∧ ((tk r l c).2 = -1 ∨ 0 ≤ (tk r l c).2) := by
  intro l
  induction l with
  | nil => intro c; simp [tk]
  | cons g l ih =>
    intro c
    rw [tk]
    split
    · simp
    · split
      · rename_i h
        simp only [List.length_cons]
        exact ⟨Nat.le_refl _, by omega, .inr h⟩
      · have := ih (c + 1)
        simp only [List.length_cons]
        exact ⟨by omega, by omega, this.2.2⟩
def TRow.val (r : TRow) : Value := .agg #[.string (bs r.tag), .int .i64 r.least, .int .i64 r.most, .string (bs r.form)]
end Go.Proofs.YtkaolpnbddjdpaaGreatDoor
namespace Go.Proofs.YtkaolpnbddjdpaaGreatDoor
theorem frGo_neg (ls : List UInt8) (m : Nat) : ∀ (es : List (List ByteArray)) (k : Nat), frGo ls m es k = -1 ∨ 0 ≤ frGo ls m es k := by
  intro es
  induction es with
  | nil =>
    intro k
    unfold frGo
    split
    · exact .inr (by omega)
    · exact .inl rfl
  | cons e r ih =>
    intro k
    unfold frGo
    split
    · exact .inr (by omega)
    · split
      · exact .inr (by omega)
      · exact ih (k + 1)
theorem frV_neg (f : ByteArray) (es : List (List ByteArray)) : frV f es = -1 ∨ 0 ≤ frV f es := by
  unfold frV
  split
  · exact .inr (by omega)
  · split
    · exact .inr (by omega)
    · exact frGo_neg _ _ _ _
theorem tk_in (r : TRow) : ∀ (l : List Seg) (c : Nat), ¬ 0 ≤ (tk r l c).2 → ∀ j, c ≤ j → j < (tk r l c).1 → ∃ g, l[j - c]? = some g ∧ g.1 = bs r.tag ∧ frV (bs r.form) g.2 = -1 := by
  intro l
  induction l with
  | nil =>
    intro c _ j h1 h2
    simp only [tk] at h2
    omega
  | cons g l ih =>
    intro c h j h1 h2
    unfold tk at h h2
    split at h2
    · simp only at h2
      omega
    · rename_i hm
      rw [if_neg hm] at h
      split at h2
      · simp only at h2
        omega
      · rename_i hf
        rw [if_neg hf] at h
        rcases Nat.eq_or_lt_of_le h1 with rfl | h3
        · refine ⟨g, by simp, ?_, ?_⟩
          · apply Classical.byContradiction
            intro q
            exact hm (.inr q)
          · rcases frV_neg (bs r.form) g.2 with q | q
            · exact q
            · exact absurd q hf
        · obtain ⟨x, k1, k2, k3⟩ := ih (c + 1) h j h3 h2
          refine ⟨x, ?_, k2, k3⟩
          rw [show j - c = (j - (c + 1)) + 1 by omega, List.getElem?_cons_succ]
          exact k1
theorem tc_in (body : List Seg) : ∀ (rs : List TRow) (a : Nat) (last : ByteArray), (tc body rs a last).2.2 = 0 → ∀ j, a ≤ j → j < body.length → ∃ (k : Nat) (r : TRow) (g : Seg), rs[k]? = some r ∧ body[j]? = some g ∧ g.1 = bs r.tag ∧ frV (bs r.form) g.2 = -1 := by
  intro rs
  induction rs with
  | nil =>
    intro a last h j h1 h2
    unfold tc at h
    split at h
    · omega
    · split at h <;> simp at h
  | cons r rs ih =>
    intro a last h j h1 h2
    unfold tc at h
    split at h
    · simp at h
    · rename_i hk
      split at h
      · simp at h
      · rcases Nat.lt_or_ge j (a + (tk r (body.drop a) 0).1) with q | q
        · obtain ⟨g, k1, k2, k3⟩ := tk_in r (body.drop a) 0 hk (j - a) (Nat.zero_le _) (by omega)
          refine ⟨0, r, g, rfl, ?_, k2, k3⟩
          rw [List.getElem?_drop] at k1
          rw [← k1]
          congr 1
          omega
        · obtain ⟨k, x, g, k1, k2⟩ := ih _ _ h j q h2
          exact ⟨k + 1, x, g, k1, k2⟩
theorem bs_inj {a b : List UInt8} (h : bs a = bs b) : a = b := by
  unfold bs at h
  simp only [ByteArray.mk.injEq, Array.mk.injEq] at h
  exact h
theorem tcV_each {n : Int} {body : List Seg} (h : (tcV n body).2.2 = 0) : (1 ≤ n ∧ n ≤ 7) ∧ body.length ≤ 400 ∧ ∀ (j : Nat) (g : Seg), body[j]? = some g → ∃ (k : Nat) (r : TRow), (rowsI n)[k]? = some r ∧ g.1 = bs r.tag ∧ frV (bs r.form) g.2 = -1 := by
  unfold tcV at h
  split at h
  · simp at h
  · rename_i h4
    split at h
    · rename_i hn
      refine ⟨hn, by omega, fun j g hj => ?_⟩
      obtain ⟨k, r, g', k1, k2, k3⟩ := tc_in body _ 0 _ h j (Nat.zero_le _) (List.getElem?_eq_some_iff.1 hj).1
      rw [hj] at k2
      cases k2
      exact ⟨k, r, k1, k3⟩
    · simp at h
end Go.Proofs.YtkaolpnbddjdpaaGreatDoor
namespace Go.Proofs.YtkaolpnbddjdpaaGreatDoor
/-- A number told. -/
def decS (n : Int) : ByteArray := ⟨(Lib.itoa n).toArray⟩
end Go.Proofs.YtkaolpnbddjdpaaGreatDoor
namespace Go.Proofs.YtkaolpnbddjdpaaGreatDoor
open Go.ChangeShapes Go.WideShapes Go.ChangeAt Go.RowKit
/-- A segment whose elements have one part each. -/
def hdS (tag : ByteArray) (ws : List ByteArray) : Seg := (tag, ws.map fun t => [t])
def tMSH : ByteArray := ⟨#[77, 83, 72]⟩
def tMST : ByteArray := ⟨#[77, 83, 84]⟩
def tGRH : ByteArray := ⟨#[71, 82, 72]⟩
def tGRT : ByteArray := ⟨#[71, 82, 84]⟩
def tIXH : ByteArray := ⟨#[73, 88, 72]⟩
def tIXT : ByteArray := ⟨#[73, 88, 84]⟩
def msgSegs (m : Msg) : List Seg := hdS tMSH [decS m.num] :: (m.body ++ [hdS tMST [decS m.body.length, decS m.num]])
def bunSegs (b : Bun) : List Seg := hdS tGRH [decS b.kind, decS b.num] :: (b.msgs.flatMap msgSegs ++ [hdS tGRT [decS b.msgs.length, decS b.num]])
def ixSegs (x : Ixc) : List Seg := hdS tIXH [x.frm, x.to, decS x.num] :: (x.buns.flatMap bunSegs ++ [hdS tIXT [decS x.buns.length, decS x.num]])
end Go.Proofs.YtkaolpnbddjdpaaGreatDoor
namespace Go.Proofs.YtkaolpnbddjdpaaGreatDoor
def eT : ByteArray := ⟨#[]⟩
def sDOC : ByteArray := bs [68, 79, 67]
def sNOT : ByteArray := bs [78, 79, 84]
def hasO (k : Int) : Bool := decide (k = 2 ∨ k = 3 ∨ k = 4)
def sTag (k : Int) : ByteArray := if k = 7 then bs [65, 67, 75] else if k = 5 ∨ k = 6 then bs [73, 84, 77] else bs [76, 73, 78]
def optN (n : Int) : List ByteArray := if n = 0 then [] else [decS n]
def optT (t : ByteArray) : List ByteArray := if t.toList.isEmpty = true then [] else [t]
/-- The words of a line, by kind. -/
def wordsI (k : Int) (l : Ln) : List ByteArray :=
  if k = 1 then [decS l.no, l.item, decS l.qty] ++ optN l.money
  else if k = 3 then [decS l.no, decS l.qty]
  else if k = 5 then [l.item, decS l.qty]
  else if k = 6 then [l.item, decS l.qty] ++ optT l.note
  else if k = 7 then [decS l.no, decS l.qty] ++ optN l.money
  else [decS l.no, decS l.qty] ++ optT l.note
def wordsS (k : Int) (l : Ln) : List ByteArray := if k = 3 then [decS l.no, decS l.qty] ++ optT l.note else wordsI k l
def docW (p : Pap) : List ByteArray := if hasO p.kind = true then [p.ref, p.other, decS p.day] else [p.ref, decS p.day]
def noteG (t : ByteArray) : Seg := hdS sNOT [t]
def lineG (f : Int → Ln → List ByteArray) (k : Int) (l : Ln) : Seg := hdS (sTag k) (f k l)
/-- The body. -/
def bodyW (f : Int → Ln → List ByteArray) (p : Pap) : List Seg := hdS sDOC (docW p) :: (p.notes.map noteG ++ p.lines.map (lineG f p.kind))
/-- What is read of a line's words. -/
def lnI (k : Int) (l : Ln) : Ln :=
  if k = 1 then ⟨l.no, l.item, l.qty, l.money, eT⟩
  else if k = 3 then ⟨l.no, eT, l.qty, 0, eT⟩
  else if k = 5 then ⟨0, l.item, l.qty, 0, eT⟩
  else if k = 6 then ⟨0, l.item, l.qty, 0, l.note⟩
  else if k = 7 then ⟨l.no, eT, l.qty, l.money, eT⟩
  else ⟨l.no, eT, l.qty, 0, l.note⟩
def lnS (k : Int) (l : Ln) : Ln := if k = 3 then ⟨l.no, eT, l.qty, 0, l.note⟩ else lnI k l
def rdP (f : Int → Ln → Ln) (p : Pap) : Pap := ⟨p.kind, p.ref, if hasO p.kind = true then p.other else eT, p.day, p.notes, p.lines.map (f p.kind)⟩
def risB (k : Int) : Bool := decide (1 ≤ k ∧ k ≤ 4)
def oncB (k : Int) : Bool := decide (k = 1 ∨ k = 5 ∨ k = 6)
/-- A line that may not stand at its place. -/
def badL (r o : Bool) (ls : List Ln) (i : Nat) : Prop := ∃ l, ls[i]? = some l ∧ ((r = true ∧ (l.no ≤ (if i = 0 then 0 else ((ls[i - 1]?).map Ln.no).getD 0) ∨ 999 < l.no)) ∨ (o = true ∧ ∃ (j : Nat) (m : Ln), j < i ∧ ls[j]? = some m ∧ m.item = l.item))
def PlcOk (k : Int) (ls : List Ln) : Prop := ∀ i, ¬ badL (risB k) (oncB k) ls i
/-- When the program's PaperRight says yes. -/
structure PapOk (p : Pap) : Prop where
  kd : 1 ≤ p.kind ∧ p.kind ≤ 7
  ln : p.lines.length ≤ 20
  tb : (tcV p.kind (bodyW wordsI p)).2.2 = 0
  pl : PlcOk p.kind (p.lines.map (lnI p.kind))
  sm : rdP lnI p = p
/-- When the model's does. -/
structure PapOkS (p : Pap) : Prop where
  nt : p.notes.length ≤ 40
  ln : p.lines.length ≤ 20
  rt : ∀ g ∈ bodyW wordsS p, rightG g.1 g.2 = true
  tb : (tcV p.kind (bodyW wordsS p)).2.2 = 0
  pl : PlcOk p.kind (p.lines.map (lnS p.kind))
  sm : rdP lnS p = p
open Classical in
noncomputable def papB (p : Pap) : Bool := decide (PapOk p)
theorem empty_eT {t : ByteArray} (h : t.toList.isEmpty = true) : t = eT := by
  have h1 : t.toList = [] := by simpa using h
  rw [ByteArray.toList_eq] at h1
  obtain ⟨⟨l⟩⟩ := t
  simp at h1
  subst h1
  rfl
theorem eT_empty : eT.toList.isEmpty = true := by rw [ByteArray.toList_eq]; rfl
theorem optT_nil {t : ByteArray} (h : optT t = []) : t = eT := by
  unfold optT at h
  split at h
  · rename_i q; exact empty_eT q
  · cases h
theorem optT_eT : optT eT = [] := by unfold optT; rw [if_pos eT_empty]
theorem numT_all (n : Int) : numT (decS n).data.toList = some n := by
  have e : (decS n).data.toList = Lib.itoa n := by simp [decS]
  rw [e]
  have hd : ∀ u : Nat, (Lib.decDigits u).head? ≠ some 45 := fun u g => by
    obtain ⟨hne, hall, _⟩ := plainD_facts (dec_plain u)
    cases hc : Lib.decDigits u with
    | nil => exact hne hc
    | cons c r =>
      rw [hc] at g hall
      simp only [List.head?_cons, Option.some.injEq] at g
      subst g
      simp [dgOk] at hall
  rcases Int.lt_or_le n 0 with h | h
  · unfold Lib.itoa
    rw [if_pos h]
    unfold numT
    rw [if_pos (by rfl)]
    have hp := dec_plain n.natAbs
    have h48 : (Lib.decDigits n.natAbs).head? ≠ some 48 := fun g => by
      have hl := dec_head n.natAbs g
      have hv := dec_val n.natAbs
      cases hc : Lib.decDigits n.natAbs with
      | nil => rw [hc] at hl; simp at hl
      | cons c r =>
        rw [hc] at hl g hv
        simp only [List.length_cons] at hl
        have hr : r = [] := List.eq_nil_of_length_eq_zero (by omega)
        subst hr
        simp only [List.head?_cons, Option.some.injEq] at g
        subst g
        simp [dgVal_cons, dgVal_nil] at hv
        omega
    have h48' : ((Lib.decDigits n.natAbs).head? != some 48) = true := by simpa using h48
    rw [if_pos (by show (plainD (Lib.decDigits n.natAbs) && ((Lib.decDigits n.natAbs).head? != some 48)) = true; rw [hp, h48']; rfl)]
    show some (-(dgVal 0 (Lib.decDigits n.natAbs) : Int)) = some n
    rw [dec_val]
    congr 1
    omega
  · obtain ⟨k, rfl⟩ := Int.eq_ofNat_of_zero_le h
    have e1 : Lib.itoa (k : Int) = Lib.decDigits k := by unfold Lib.itoa; rw [if_neg (by omega)]; rfl
    have e2 : Lib.itoa (Int.ofNat k) = Lib.decDigits k := e1
    first | rw [e1] | rw [e2]
    unfold numT
    rw [if_neg (hd k), if_pos (dec_plain k), dec_val]
theorem inB_dec {n lo hi : Int} (h : inB (decS n).data.toList lo hi = true) : lo ≤ n ∧ n ≤ hi := by
  unfold inB at h
  rw [numT_all] at h
  simpa using h
theorem zB_dec {n : Int} (h : zB (decS n).data.toList = true) : -1000000 ≤ n ∧ n ≤ 1000000 ∧ n ≠ 0 := by
  unfold zB at h
  rw [numT_all] at h
  simpa using h
/-- A numeral of at most eleven signs is a part that is not empty. -/
theorem num_part {t : ByteArray} {v : Int} (h : numT t.data.toList = some v) (h0 : -1000000000 ≤ v) (h1 : v ≤ 1000000000) : partB t = true ∧ t.toList.isEmpty = false := by
  have key : ∀ l : List UInt8, plainD l = true → dgVal 0 l ≤ 1000000000 → l ≠ [] ∧ l.length ≤ 10 ∧ ∀ c ∈ l, 48 ≤ c.toNat ∧ c.toNat ≤ 57 := fun l hp hv => by
    obtain ⟨hne, hall, _⟩ := plainD_facts hp
    refine ⟨hne, ?_, fun c hc => ?_⟩
    · have := dec_len 9 (dgVal 0 l) (by omega)
      rw [plain_dec hp] at this
      omega
    · have := List.all_eq_true.1 hall c hc
      simpa [dgOk] using this
  have hsz : t.size = t.data.toList.length := rfl
  have fin : t.data.toList ≠ [] ∧ t.data.toList.length ≤ 11 ∧ ∀ c ∈ t.data.toList, 32 ≤ c.toNat ∧ c.toNat ≤ 126 := by
    unfold numT at h
    split at h
    · rename_i h45
      split at h
      · rename_i hp
        cases h
        obtain ⟨k1, k2, k3⟩ := key _ (by simp only [Bool.and_eq_true] at hp; exact hp.1) (by omega)
        cases hc : t.data.toList with
        | nil => rw [hc] at h45; simp at h45
        | cons c r =>
          rw [hc] at h45 k2 k3
          simp only [List.head?_cons, Option.some.injEq] at h45
          subst h45
          simp only [List.tail_cons] at k2 k3
          refine ⟨by simp, by simp only [List.length_cons]; omega, fun x hx => ?_⟩
          rcases List.mem_cons.1 hx with rfl | hx
          · decide
          · have := k3 x hx; omega
      · cases h
    · split at h
      · rename_i hp
        cases h
        obtain ⟨k1, k2, k3⟩ := key _ hp (by omega)
        exact ⟨k1, by omega, fun x hx => by have := k3 x hx; omega⟩
      · cases h
  refine ⟨?_, ?_⟩
  · unfold partB rngB
    simp only [Bool.and_eq_true, decide_eq_true_eq, List.all_eq_true]
    exact ⟨by omega, fun x hx => fin.2.2 x hx⟩
  · rw [ByteArray.toList_eq]
    cases hc : t.data.toList with
    | nil => exact absurd hc fin.1
    | cons c r => rfl
theorem name_part {t : ByteArray} (h : nameB t = true) : partB t = true ∧ t.toList.isEmpty = false := by
  unfold nameB at h
  simp only [Bool.and_eq_true, decide_eq_true_eq, List.all_eq_true] at h
  have hsz : t.size = t.data.toList.length := rfl
  refine ⟨?_, ?_⟩
  · unfold partB rngB
    simp only [Bool.and_eq_true, decide_eq_true_eq, List.all_eq_true]
    refine ⟨by omega, fun x hx => ?_⟩
    have := h.2 x hx
    simp only [nmOk, decide_eq_true_eq] at this
    omega
  · rw [ByteArray.toList_eq]
    cases hc : t.data.toList with
    | nil =>
      have : t.data.toList.length = 0 := by rw [hc]; rfl
      omega
    | cons c r => rfl
theorem word_part {c : Int} {t : ByteArray} (h : wordB c t = true) : partB t = true ∧ t.toList.isEmpty = false := by
  have hin : ∀ lo hi : Int, -1000000000 ≤ lo → hi ≤ 1000000000 → inB t.data.toList lo hi = true → partB t = true ∧ t.toList.isEmpty = false := fun lo hi q1 q2 q => by
    unfold inB at q
    split at q
    · rename_i v hv
      have : lo ≤ v ∧ v ≤ hi := by simpa using q
      exact num_part hv (by omega) (by omega)
    · cases q
  unfold wordB at h
  split at h
  · exact name_part h
  · split at h
    · simp only [Bool.and_eq_true, Bool.not_eq_true', emptyB] at h
      exact ⟨h.2, h.1⟩
    · split at h
      · exact hin _ _ (by omega) (by omega) h
      · split at h
        · unfold zB at h
          split at h
          · rename_i v hv
            have : -1000000 ≤ v ∧ v ≤ 1000000 ∧ v ≠ 0 := by simpa using h
            exact num_part hv (by omega) (by omega)
          · cases h
        · split at h
          · exact hin _ _ (by omega) (by omega) h
          · exact hin _ _ (by omega) (by omega) h
/-- What it is that a form takes elements. -/
theorem frV_ok {f : List UInt8} {ls : List UInt8} {m : Nat} {es : List (List ByteArray)} (hf : formF f = some (ls, m)) (h : frV (bs f) es = -1) : m ≤ es.length ∧ es.length ≤ ls.length ∧ ∀ (j : Nat) (c : UInt8) (e : List ByteArray), ls[j]? = some c → es[j]? = some e → elemB (c.toNat : Int) e = true := by
  have hb : (bs f).data.toList = f := rfl
  unfold frV at h
  rw [hb, hf] at h
  split at h
  · cases h
  · have hO := frGo_out ls m es _ 0 rfl (by omega) (fun j hj => by omega)
    rw [List.drop_zero] at hO
    have h' : frGo ls m es 0 = -1 := h
    rw [h'] at hO
    rcases hO with ⟨k, _, hk, _⟩ | ⟨ha, hr⟩
    · omega
    · have hm : m ≤ es.length := by
        rcases hr with ⟨_, q⟩ | ⟨q, _⟩
        · omega
        · exact q
      refine ⟨hm, ?_, fun j c e hc he => ?_⟩
      · rcases Nat.lt_or_ge ls.length es.length with q | q
        · exact absurd (.inl (Nat.le_refl _)) (ha ls.length q)
        · exact q
      · have hj := (List.getElem?_eq_some_iff.1 he).1
        have := ha j hj
        unfold badAt at this
        rw [hc, he] at this
        simp only [Option.getD_some] at this
        cases q : elemB (c.toNat : Int) e with
        | true => rfl
        | false => exact absurd (.inr q) this
theorem elem_word {c : Int} {t : ByteArray} (h : elemB c [t] = true) : wordB c t = true := by
  unfold elemB at h
  simp only [Bool.and_eq_true] at h
  exact h.2
/-- Rows of the table of a kind: tag and form. -/
theorem rows_of {k : Int} (hk : 1 ≤ k ∧ k ≤ 7) {i : Nat} {r : TRow} (h : (rowsI k)[i]? = some r) :
    (r.tag = [68, 79, 67] ∧ r.most = 1 ∧ r.form = (if hasO k = true then [114, 114, 100] else [114, 100])) ∨ (r.tag = [78, 79, 84] ∧ r.most = 2 ∧ r.form = [116]) ∨
    (bs r.tag = sTag k ∧ r.most ≤ 20 ∧ r.tag ≠ [68, 79, 67] ∧ r.tag ≠ [78, 79, 84] ∧ r.form = (if k = 1 then [110, 114, 113, 63, 110] else if k = 3 then [110, 113] else if k = 5 then [114, 110] else if k = 6 then [114, 122, 63, 116] else if k = 7 then [110, 110, 63, 110] else [110, 113, 63, 116])) := by
  obtain rfl | rfl | rfl | rfl | rfl | rfl | rfl : k = 1 ∨ k = 2 ∨ k = 3 ∨ k = 4 ∨ k = 5 ∨ k = 6 ∨ k = 7 := by omega
  all_goals
    rcases i with _ | _ | _ | i
    all_goals first | (cases h; exact .inl ⟨rfl, rfl, rfl⟩) | (cases h; exact .inr (.inl ⟨rfl, rfl, rfl⟩)) | (cases h; exact .inr (.inr ⟨rfl, by decide, by decide, by decide, rfl⟩)) | (exfalso; revert h; simp [rowsI, rowsK])
end Go.Proofs.YtkaolpnbddjdpaaGreatDoor
namespace Go.Proofs.YtkaolpnbddjdpaaGreatDoor
open Go.ChangeShapes Go.WideShapes Go.ChangeAt Go.RowKit
theorem rev_ind {α : Type} {P : List α → Prop} (h0 : P []) (h1 : ∀ r q, P r → P (r ++ [q])) (l : List α) : P l := by
  have key : ∀ (n : Nat) (l : List α), l.length = n → P l := fun n => by
    induction n with
    | zero =>
      intro l h
      rw [List.eq_nil_of_length_eq_zero h]
      exact h0
    | succ n ih =>
      intro l h
      have hne : l ≠ [] := fun e => by rw [e] at h; cases h
      rw [← List.dropLast_concat_getLast hne]
      exact h1 _ _ (ih _ (by rw [List.length_dropLast]; omega))
  exact key l.length l rfl
/-- A paper's message at its place. -/
def msgP (i : Nat) (q : Pap) : Msg := ⟨((i + 1 : Nat) : Int), bodyW wordsI q⟩
/-- One paper more: in the last bundle if that is of its kind, else in a new one. -/
def addB (i : Nat) (q : Pap) : List Bun → List Bun
  | [] => [⟨q.kind, 1, [msgP i q]⟩]
  | [b] => if b.kind = q.kind then [⟨b.kind, b.num, b.msgs ++ [msgP i q]⟩] else [b, ⟨q.kind, b.num + 1, [msgP i q]⟩]
  | b :: c :: r => b :: addB i q (c :: r)
/-- The bundles of papers. -/
def bunsP (ps : List Pap) : List Bun := (ps.zipIdx).foldl (fun bs x => addB x.2 x.1 bs) []
theorem bunsP_nil : bunsP [] = [] := rfl
theorem bunsP_snoc (ps : List Pap) (q : Pap) : bunsP (ps ++ [q]) = addB ps.length q (bunsP ps) := by
  unfold bunsP
  rw [List.zipIdx_append, List.foldl_append]
  simp
/-- The last bundle bears the last paper's kind. -/
theorem addB_last (i : Nat) (q : Pap) : ∀ bs, ∃ pre b, addB i q bs = pre ++ [b] ∧ b.kind = q.kind ∧ ∃ ms, b.msgs = ms ++ [msgP i q]
  | [] => ⟨[], _, rfl, rfl, [], rfl⟩
  | [b] => by
    unfold addB
    split
    · rename_i h
      exact ⟨[], _, rfl, h, b.msgs, rfl⟩
    · exact ⟨[b], _, rfl, rfl, [], rfl⟩
  | b :: c :: r => by
    obtain ⟨pre, x, h1, h2, h3⟩ := addB_last i q (c :: r)
    exact ⟨b :: pre, x, by rw [addB, h1]; rfl, h2, h3⟩
theorem bunsP_last {ps : List Pap} {q : Pap} (h : ps.getLast? = some q) : ∃ pre b, bunsP ps = pre ++ [b] ∧ b.kind = q.kind := by
  obtain ⟨r, rfl⟩ : ∃ r, ps = r ++ [q] := List.getLast?_eq_some_iff.1 h
  obtain ⟨pre, b, h1, h2, _⟩ := addB_last r.length q (bunsP r)
  exact ⟨pre, b, by rw [bunsP_snoc, h1], h2⟩
/-- How a bundle is numbered: by its place. -/
theorem addB_num (i : Nat) (q : Pap) : ∀ (bs : List Bun) (o : Nat), (∀ (j : Nat) (b : Bun), bs[j]? = some b → b.num = ((o + j + 1 : Nat) : Int)) → (bs = [] → o = 0) → ∀ (j : Nat) (b : Bun), (addB i q bs)[j]? = some b → b.num = ((o + j + 1 : Nat) : Int)
  | [], o, _, h0, j, b, hb => by
    obtain rfl := h0 rfl
    cases j with
    | zero => simp [addB] at hb; subst hb; rfl
    | succ j => simp [addB] at hb
  | [c], o, h, _, j, b, hb => by
    have hc := h 0 c rfl
    unfold addB at hb
    split at hb
    · cases j with
      | zero => simp at hb; subst hb; exact hc
      | succ j => simp at hb
    · match j, hb with
      | 0, hb => simp at hb; subst hb; exact hc
      | 1, hb => simp at hb; subst hb; simp only; rw [hc]; omega
      | j + 2, hb => simp at hb
  | c :: d :: r, o, h, _, j, b, hb => by
    rw [addB] at hb
    cases j with
    | zero =>
      simp at hb
      subst hb
      exact h 0 c rfl
    | succ j =>
      rw [List.getElem?_cons_succ] at hb
      have := addB_num i q (d :: r) (o + 1) (fun k x hk => by
        have := h (k + 1) x (by simpa using hk)
        rw [this]
        congr 1
        omega) (fun e => by cases e) j b hb
      rw [this]
      congr 1
      omega
theorem bunsP_num (ps : List Pap) : ∀ (j : Nat) (b : Bun), (bunsP ps)[j]? = some b → b.num = ((j + 1 : Nat) : Int) := by
  refine rev_ind (P := fun ps => ∀ (j : Nat) (b : Bun), (bunsP ps)[j]? = some b → b.num = ((j + 1 : Nat) : Int)) ?_ ?_ ps
  · intro j b h
    simp [bunsP] at h
  · intro r q ih j b h
    rw [bunsP_snoc] at h
    have := addB_num r.length q (bunsP r) 0 (fun k x hk => by rw [ih k x hk]; congr 1; omega) (fun _ => rfl) j b h
    rw [this]
    congr 1
    omega
/-- A kind's paper added where the last bundle is of that kind. -/
theorem addB_in (i : Nat) (q : Pap) : ∀ (pre : List Bun) (b : Bun), b.kind = q.kind → addB i q (pre ++ [b]) = pre ++ [⟨b.kind, b.num, b.msgs ++ [msgP i q]⟩]
  | [], b, h => by rw [List.nil_append, addB, if_pos h]; rfl
  | [c], b, h => by
    have := addB_in i q [] b h
    rw [List.nil_append] at this
    show c :: addB i q [b] = _
    rw [this]
    rfl
  | c :: d :: r, b, h => by
    have := addB_in i q (d :: r) b h
    show c :: addB i q (d :: (r ++ [b])) = _
    rw [show d :: (r ++ [b]) = (d :: r) ++ [b] from rfl, this]
    rfl
theorem addB_new (i : Nat) (q : Pap) : ∀ (pre : List Bun) (b : Bun), b.kind ≠ q.kind → addB i q (pre ++ [b]) = pre ++ [b, ⟨q.kind, b.num + 1, [msgP i q]⟩]
  | [], b, h => by rw [List.nil_append, addB, if_neg h]; rfl
  | [c], b, h => by
    have := addB_new i q [] b h
    rw [List.nil_append] at this
    show c :: addB i q [b] = _
    rw [this]
    rfl
  | c :: d :: r, b, h => by
    have := addB_new i q (d :: r) b h
    show c :: addB i q (d :: (r ++ [b])) = _
    rw [show d :: (r ++ [b]) = (d :: r) ++ [b] from rfl, this]
    rfl
/-- The interchange of a parcel. -/
def ixP (p : Pcl) : Ixc := ⟨p.frm, p.to, p.num, bunsP p.papers⟩
open Classical in
/-- Is a parcel right? -/
noncomputable def pclB (p : Pcl) : Bool := p.papers.all papB && ixB (ixP p)
/-- Messages in all. -/
def msgsN : List Bun → Nat
  | [] => 0
  | b :: r => b.msgs.length + msgsN r
theorem msgsN_add (i : Nat) (q : Pap) : ∀ bs, msgsN (addB i q bs) = msgsN bs + 1
  | [] => rfl
  | [b] => by
    unfold addB
    split
    · simp [msgsN]
    · simp [msgsN]
  | b :: c :: r => by
    have := msgsN_add i q (c :: r)
    have e1 : msgsN (addB i q (b :: c :: r)) = b.msgs.length + msgsN (addB i q (c :: r)) := rfl
    have e2 : msgsN (b :: c :: r) = b.msgs.length + msgsN (c :: r) := rfl
    rw [e1, e2, this]
    omega
theorem msgsN_buns (ps : List Pap) : msgsN (bunsP ps) = ps.length := by
  refine rev_ind (P := fun ps => msgsN (bunsP ps) = ps.length) rfl ?_ ps
  intro r q ih
  rw [bunsP_snoc, msgsN_add, ih]
  simp
theorem msgsN_le : ∀ bs : List Bun, (∀ b ∈ bs, b.msgs.length ≤ 10) → msgsN bs ≤ 10 * bs.length
  | [], _ => by simp [msgsN]
  | b :: r, h => by
    have h1 := h b List.mem_cons_self
    have h2 := msgsN_le r fun x hx => h x (List.mem_cons_of_mem _ hx)
    simp only [msgsN, List.length_cons]
    omega
/-- More than fifty papers make no right interchange. -/
theorem ixB_many {p : Pcl} (h : 50 < p.papers.length) : ixB (ixP p) = false := by
  cases e : ixB (ixP p) with
  | false => rfl
  | true =>
    unfold ixB at e
    simp only [Bool.and_eq_true, decide_eq_true_eq, List.all_eq_true] at e
    obtain ⟨_, _, _, _, h5, hb⟩ := e
    have h10 : ∀ b ∈ (ixP p).buns, b.msgs.length ≤ 10 := fun b hb' => by
      have := hb b hb'
      unfold bunB at this
      simp only [Bool.and_eq_true, decide_eq_true_eq] at this
      exact this.2.2.2.2.1
    have h1 := msgsN_le _ h10
    have h2 : msgsN (ixP p).buns = p.papers.length := msgsN_buns _
    omega
theorem pclB_many {p : Pcl} (h : 50 < p.papers.length) : pclB p = false := by
  unfold pclB
  rw [ixB_many h, Bool.and_false]
theorem pclB_bad {p : Pcl} {k : Nat} {q : Pap} (h : p.papers[k]? = some q) (hq : papB q = false) : pclB p = false := by
  have : p.papers.all papB = false := by
    cases e : p.papers.all papB with
    | false => rfl
    | true =>
      rw [List.all_eq_true] at e
      have := e q (List.mem_of_getElem? h)
      rw [hq] at this
      cases this
  unfold pclB
  rw [this, Bool.false_and]
theorem pclB_good {p : Pcl} (h : ∀ (k : Nat) (q : Pap), p.papers[k]? = some q → papB q = true) : pclB p = ixB (ixP p) := by
  have : p.papers.all papB = true := by
    rw [List.all_eq_true]
    intro q hq
    obtain ⟨k, hk⟩ := List.mem_iff_getElem?.1 hq
    exact h k q hk
  unfold pclB
  rw [this, Bool.true_and]
end Go.Proofs.YtkaolpnbddjdpaaGreatDoor
namespace Go.Proofs.YtkaolpnbddjdpaaGreatDoor
open Go.ChangeShapes Go.WideShapes Go.ChangeAt Go.RowKit
theorem infoStr : (Tryz.prog.info? 9).map (fun i => (i.zero, i.size, i.bytes)) = some (some (.string ⟨#[]⟩), 1, 16) := by kernel_rfl
theorem row_n' {n₀ t k N C : Nat} {W : World} {A : Option Addr} {xs : List Value} (h : W.ownsRow n₀ t 1 (.slice A N C) k xs) : N = k := by
  rcases h.2 with ⟨e, h0⟩ | ⟨g, cap, cur, e, _⟩
  · simp only [Value.slice.injEq] at e
    omega
  · simp only [Value.slice.injEq] at e
    exact e.2.1
theorem row1 (w : World) (t : ByteArray) (hz : t.size ≤ 9223372036854775807) : RowS (w.alloc (.cells #[.string t] 9)) (.slice (some ⟨w.heap.size, 0, none⟩) 1 1) [t] := by
  refine ⟨⟨_, _, rfl, fun _ => ⟨w.heap.size, 0, rfl, fun i s hi => ?_⟩⟩, by simp, fun i s hi => ?_⟩
  · rcases i with _ | i
    · simp at hi
      subst hi
      simp [go_sem]
    · simp at hi
  · rcases i with _ | i
    · simp at hi
      subst hi
      exact hz
    · simp at hi
/-- A segment at hand in block B, the answer's block R ahead of it. -/
structure GB (R B : Nat) (w W : World) (tag : ByteArray) (u : Value) (vals : List Value) (es : List (List ByteArray)) : Prop where
  r : W.heap[R]? = some (.cells #[.string ⟨#[]⟩, .slice none 0 0] 90)
  g : W.heap[B]? = some (.cells #[.string tag, u] 90)
  own : OwnV (B + 1) W u vals es
  bel : Below w.heap.size w W
  wr : w.heap.size ≤ R
  rb : R < B
theorem GB.lt {R B : Nat} {w W : World} {tag : ByteArray} {u : Value} {vals : List Value} {es : List (List ByteArray)} (h : GB R B w W tag u vals es) : B + 1 ≤ W.heap.size := (Array.getElem?_eq_some_iff.1 h.g).1
theorem GB.below {R B : Nat} {w W W' : World} {tag : ByteArray} {u : Value} {vals : List Value} {es : List (List ByteArray)} (h : GB R B w W tag u vals es) (hb : Below W.heap.size W W') : GB R B w W' tag u vals es :=
  ⟨(hb.block _ (Array.getElem?_eq_some_iff.1 h.r).1).trans h.r, (hb.block _ (Array.getElem?_eq_some_iff.1 h.g).1).trans h.g, h.own.below hb, h.bel.trans (hb.mono h.bel.size), h.wr, h.rb⟩
theorem GB.cells {R B : Nat} {w W : World} {tag : ByteArray} {u : Value} {vals : List Value} {es : List (List ByteArray)} (h : GB R B w W tag u vals es) : W.cell? ⟨B, 0, none⟩ = some (.string tag) ∧ W.cell? ⟨B, 1, none⟩ = some u := by
  have := h.g
  exact ⟨by simp [World.cell?, this], by simp [World.cell?, this]⟩
/-- One element more: appended in w4, then stored. -/
theorem GB.push {R B : Nat} {w W W2 W3 w4 : World} {tag : ByteArray} {u x u' : Value} {vals : List Value} {es : List (List ByteArray)} {e : List ByteArray} (h : GB R B w W tag u vals es) (hb2 : Below W.heap.size W W2) (hx : W2.ownsRow W.heap.size 9 1 x e.length (e.map Value.string)) (he : 0 < e.length) (hb3 : Below W2.heap.size W2 W3)
    (hown : w4.ownsRow (B + 1) 141 1 u' (es.length + 1) (vals ++ [x])) (hg : W3.grownBy w4 u.ownBlock) :
    (w4.cell? ⟨B, 1, none⟩ = some u ∧ w4.frozen? ⟨B, 1, none⟩ = false) ∧ GB R B w (w4.setCell ⟨B, 1, none⟩ u') tag u' (vals ++ [x]) (es ++ [e]) := by
  have h3 := (h.below hb2).below hb3
  have l3 := h3.lt
  have q1 := h.wr
  have q2 := h.rb
  have hO := h.own.push h.lt hb2 hx he hb3 hown hg
  have hold : ∀ k, k < B + 1 → w4.heap[k]? = W3.heap[k]? := fun k hk => hg.block k (by omega) (row_lt h3.own.row hk)
  have hgg : w4.heap[B]? = some (.cells #[.string tag, u] 90) := (hold _ (by omega)).trans h3.g
  have hbb : Below w.heap.size W3 w4 := ⟨hg.os, hg.tape, hg.output, hg.size, fun k hk => hold k (by omega)⟩
  have hset : (w4.setCell ⟨B, 1, none⟩ u').heap[B]? = some (.cells #[.string tag, u'] 90) := by
    have := heap_setCell_same w4 B 1 _ _ u' hgg
    simpa using this
  refine ⟨⟨by simp [World.cell?, hgg], by simp [World.frozen?, hgg]⟩, ?_, hset, hO.set (by omega) 1 u', (h3.bel.trans hbb).setCell (show w.heap.size ≤ B by omega) _, q1, q2⟩
  rw [Below.heap_setCell w4 ⟨B, 1, none⟩ u' R (show R ≠ B by omega)]
  exact (hold _ (by omega)).trans h3.r
end Go.Proofs.YtkaolpnbddjdpaaGreatDoor
namespace Go.Proofs.YtkaolpnbddjdpaaGreatDoor
open Go.Shelf Go.RowKit Go.Lib
def renCl : Go.Shelf.Ren := ⟨fun | 16 => 170 | n => n, fun | 24 => 63 | 9 => 9 | 4 => 4 | n => n, fun | n => n⟩
theorem laysCl : Go.Proofs.Lays2.n16 Tryz.prog renCl := {
  mixed := by kernel_rfl
  f16 := Tryz.func170.trans (congrArg some (by kernel_rfl))
  t4 := Tryz.underlying4
  a4 := Tryz.isAgg4
  z4 := Tryz.sizeOf4
  v4 := Tryz.zeroValue4
  t9 := Tryz.underlying9
  a9 := Tryz.isAgg9
  z9 := Tryz.sizeOf9
  v9 := Tryz.zeroValue9
  t24 := Tryz.underlying63
  a24 := Tryz.isAgg63
  z24 := Tryz.sizeOf63
  v24 := Tryz.zeroValue63
  i9 := by kernel_rfl }
theorem cloneS_any (b off n c : Nat) (zs : List ByteArray) (w : World) (hz : n ≤ zs.length) (hbig : n * 16 ≤ 140737488355328) (hc : ∀ j, j < zs.length → w.cell? ⟨b, off + j, none⟩ = some (.string (zs.getD j ByteArray.empty))) :
    Calls Tryz.prog 170 #[.slice (some ⟨b, off, none⟩) n c] w fun e w' => ∃ v', e = .returned v' ∧ w'.ownsRow w.heap.size 9 1 v' n ((zs.take n).map (Value.string)) ∧ v' ≠ .slice none 0 0 ∧ Below w.heap.size w w' := Any.slices_Clone_string laysCl b off n c zs w hz hbig hc
end Go.Proofs.YtkaolpnbddjdpaaGreatDoor
namespace Go.Proofs.YtkaolpnbddjdpaaGreatDoor
open Go.ChangeShapes Go.WideShapes Go.ChangeAt Go.RowKit
set_option maxHeartbeats 1000000 in
theorem elementBy_any (v : Value) (ss : List ByteArray) (w : World) (h : RowS w v ss) (hp : 0 < ss.length) (hl : ss.length ≤ 1048576) :
    Calls Tryz.prog 144 #[v] w fun e w' => ∃ v', e = .returned (.agg #[v']) ∧ w'.ownsRow w.heap.size 9 1 v' ss.length (ss.map Value.string) ∧ Below w.heap.size w w' := by
  have hb0 : Below w.heap.size w (w.alloc (.cells #[.slice none 0 0] 141)) := (Below.refl _ _).alloc (Nat.le_refl _) _
  obtain ⟨a, cap, rfl, hc⟩ := (h.below hb0).shape
  obtain ⟨b, o, rfl, hcell⟩ := hc (by intro e; rw [e] at hp; simp at hp)
  have HC : Hid (∀ j, j < ss.length → (w.alloc (.cells #[.slice none 0 0] 141)).cell? ⟨b, o + j, none⟩ = some (.string (ss.getD j ByteArray.empty))) := fun j hj => by
    rw [hcell j ss[j] (List.getElem?_eq_getElem hj)]
    simp [List.getD, List.getElem?_eq_getElem hj]
  clear hcell hc h
  go_enter Tryz.func144, Tryz.ntmps144
  go_wp2_with fail
  refine (cloneS_any b o ss.length cap ss _ (Nat.le_refl _) (by omega) HC.out).mono ?_
  rintro e w1 ⟨v', rfl, hrow, _, hb1⟩
  rw [List.take_length] at hrow
  have hs1 : w.heap.size + 1 ≤ w1.heap.size := by have := hb1.size; simpa using this
  have rx : w1.heap[w.heap.size]? = some (.cells #[.slice none 0 0] 141) := (hb1.block w.heap.size (by simp)).trans (World.alloc_heap_new w _)
  have c1 : w1.cell? ⟨w.heap.size, 0, none⟩ = some (.slice none 0 0) := by simp [World.cell?, rx]
  have z1 : w1.frozen? ⟨w.heap.size, 0, none⟩ = false := by simp [World.frozen?, rx]
  obtain ⟨A', L', C', hv'⟩ : ∃ A' L' C', v' = .slice A' L' C' := by
    rcases hrow.2 with ⟨rfl, _⟩ | ⟨g, cap, cur, rfl, _⟩
    · exact ⟨_, _, _, rfl⟩
    · exact ⟨_, _, _, rfl⟩
  subst hv'
  have HR : Hid (w1.ownsRow (w.alloc (.cells #[.slice none 0 0] 141)).heap.size 9 1 (.slice A' L' C') ss.length (ss.map Value.string) ∧ Below w.heap.size w w1) := ⟨hrow, hb0.trans (hb1.mono (by simp))⟩
  clear hrow hb0 hb1 rx HC
  go_wp2
  refine bodyPost_ret (v := .agg #[.slice A' L' C']) (by simp [results, Tryz.results144, go_sem, c1]) rfl ⟨_, rfl, ?_, HR.out.2.setCell (Nat.le_refl _) _⟩
  have h2 := row_mono HR.out.1 (show w.heap.size ≤ _ by simp)
  exact h2.kept (grownBy_setCell' w1 w.heap.size _) (.inr (row_lt HR.out.1 (show w.heap.size < (w.alloc (.cells #[.slice none 0 0] 141)).heap.size by simp)).symm)
end Go.Proofs.YtkaolpnbddjdpaaGreatDoor
namespace Go.Proofs.YtkaolpnbddjdpaaGreatDoor
open Go.Shelf Go.RowKit
def renClone : Go.Shelf.Ren := ⟨fun | 316 => 126 | n => n, fun | 9 => 9 | 3 => 3 | 4 => 4 | 37 => 22 | 0 => 0 | 127 => 148 | 5 => 5 | n => n, fun | n => n⟩
theorem laysClone : Go.Proofs.LaysM.n316 Tryz.prog renClone := {
  mixed := by kernel_rfl
  f316 := Tryz.func126.trans (congrArg some (by kernel_rfl))
  t0 := Tryz.underlying0
  a0 := Tryz.isAgg0
  z0 := Tryz.sizeOf0
  v0 := Tryz.zeroValue0
  t3 := Tryz.underlying3
  a3 := Tryz.isAgg3
  z3 := Tryz.sizeOf3
  v3 := Tryz.zeroValue3
  t4 := Tryz.underlying4
  a4 := Tryz.isAgg4
  z4 := Tryz.sizeOf4
  v4 := Tryz.zeroValue4
  t9 := Tryz.underlying9
  a9 := Tryz.isAgg9
  z9 := Tryz.sizeOf9
  v9 := Tryz.zeroValue9
  t37 := Tryz.underlying22
  a37 := Tryz.isAgg22
  z37 := Tryz.sizeOf22
  v37 := Tryz.zeroValue22
  t127 := Tryz.underlying148
  a127 := Tryz.isAgg148
  z127 := Tryz.sizeOf148
  v127 := Tryz.zeroValue148
  t5 := Tryz.underlying5
  a5 := Tryz.isAgg5
  z5 := Tryz.sizeOf5
  v5 := Tryz.zeroValue5
  i0 := by kernel_rfl
  i3 := by kernel_rfl
  i4 := by kernel_rfl
  i5 := by kernel_rfl
  i9 := by kernel_rfl
  i37 := by kernel_rfl
  i127 := by kernel_rfl }
theorem cloneLite (s : ByteArray) (w : World) (hlim : s.size ≤ 281474976710656) : Calls Tryz.prog 126 #[.string s] w fun e w' => e = .returned (.string s) ∧ Below w.heap.size w w' := Any.stringslite_Clone laysClone s w hlim
theorem clone_any (s : ByteArray) (w : World) (hlim : s.size ≤ 281474976710656) : Calls Tryz.prog 84 #[.string s] w fun e w' => e = .returned (.string s) ∧ Below w.heap.size w w' := by
  go_enter Tryz.func84, Tryz.ntmps84
  go_wp2_with fail
  refine (cloneLite s _ hlim).mono ?_
  rintro e w1 ⟨rfl, hb⟩
  go_wp2
  go_ret
  exact ⟨rfl, hb⟩
end Go.Proofs.YtkaolpnbddjdpaaGreatDoor
