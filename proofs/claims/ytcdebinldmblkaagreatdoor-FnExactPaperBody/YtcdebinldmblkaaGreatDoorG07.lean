/- Texts of ours put together: TcP, TcQ, RowL, RightGp, RowIx, OwnB, DecD. -/
import Derived.Test.YtcdebinldmblkaaGreatDoorG05
import Derived.Test.YtcdebinldmblkaaGreatDoorG06
import Derived.Test.YtcdebinldmblkaaGreatDoorG04
import Derived.Deep.OwnRows
import Derived.Lib.AppendIntMem
import Derived.Test.YtcdebinldmblkaaGreatDoorRows
namespace Go.Proofs.YtcdebinldmblkaaGreatDoor
def frGo (ls : List UInt8) (m : Nat) : List (List ByteArray) → Nat → Int
  | [], k => if k < m then (k : Int) else -1
  | e :: r, k => if ls.length ≤ k then (k : Int) else if elemB ((ls[k]?.getD 0).toNat : Int) e = false then (k : Int) else frGo ls m r (k + 1)
def frV (f : ByteArray) (es : List (List ByteArray)) : Int := if 20000 < f.size then 0 else match formF f.data.toList with
  | none => 0
  | some (ls, m) => frGo ls m es 0
theorem frGo_out (ls : List UInt8) (m : Nat) (es : List (List ByteArray)) : ∀ (n k : Nat), es.length - k = n → k ≤ es.length → (∀ j, j < k → ¬ badAt ls es j) → FrOut ls m es (frGo ls m (es.drop k) k) := by
  intro n
  induction n with
  | zero =>
    intro k hn hk hA
    obtain rfl : k = es.length := by omega
    rw [List.drop_length, frGo]
    refine .inr ⟨hA, ?_⟩
    by_cases h : es.length < m
    · rw [if_pos h]; exact .inl ⟨h, rfl⟩
    · rw [if_neg h]; exact .inr ⟨by omega, rfl⟩
  | succ n ih =>
    intro k hn hk hA
    have hlt : k < es.length := by omega
    rw [List.drop_eq_getElem_cons hlt, frGo]
    by_cases h1 : ls.length ≤ k
    · rw [if_pos h1]; exact .inl ⟨k, hlt, rfl, .inl h1, hA⟩
    · rw [if_neg h1]
      by_cases h2 : elemB ((ls[k]?.getD 0).toNat : Int) es[k] = false
      · rw [if_pos h2]
        refine .inl ⟨k, hlt, rfl, .inr ?_, hA⟩
        rw [List.getElem?_eq_getElem hlt]
        exact h2
      · rw [if_neg h2]
        refine ih (k + 1) (by omega) (by omega) fun j hj => ?_
        rcases Nat.lt_or_ge j k with g | g
        · exact hA j g
        · obtain rfl : j = k := by omega
          rintro (g | g)
          · exact h1 g
          · rw [List.getElem?_eq_getElem hlt] at g
            exact h2 g
theorem frV_is {f : ByteArray} {es : List (List ByteArray)} {r : Int} (h : FrO f es r) : r = frV f es := by
  refine FrO.one h ?_
  unfold FrO frV
  by_cases hf : 20000 < f.size
  · rw [if_pos hf, if_pos hf]
  · rw [if_neg hf, if_neg hf]
    cases hc : formF f.data.toList with
    | none => rfl
    | some p => exact frGo_out p.1 p.2 es _ 0 rfl (by omega) (fun j hj => by omega)
/-- How many segments are the row's, and the place of an element that is none. -/
def tk (r : TRow) : List Seg → Nat → Nat × Int
  | [], c => (c, -1)
  | g :: l, c => if (c : Int) = r.most ∨ g.1 ≠ bs r.tag then (c, -1) else if 0 ≤ frV (bs r.form) g.2 then (c, frV (bs r.form) g.2) else tk r l (c + 1)
/-- What the table tells: at, el, code. -/
def tc (body : List Seg) : List TRow → Nat → ByteArray → Int × Int × Int
  | [], a, last => if a = body.length then (0, 0, 0) else if (body[a]?.map (·.1)).getD ⟨#[]⟩ = last then ((a : Int), 0, 7) else ((a : Int), 0, 3)
  | r :: rs, a, _ =>
    if 0 ≤ (tk r (body.drop a) 0).2 then ((a : Int) + ((tk r (body.drop a) 0).1 : Int), (tk r (body.drop a) 0).2, 3)
    else if ((tk r (body.drop a) 0).1 : Int) < r.least then ((a : Int) + ((tk r (body.drop a) 0).1 : Int), 0, 4)
    else tc body rs (a + (tk r (body.drop a) 0).1) (bs r.tag)
def tcV (n : Int) (body : List Seg) : Int × Int × Int := if 400 < body.length then (0, 0, 2) else if 1 ≤ n ∧ n ≤ 7 then tc body (rowsI n) 0 (bs []) else (0, 0, 1)
theorem tk_le (r : TRow) : ∀ (l : List Seg) (c : Nat), c ≤ (tk r l c).1 ∧ (tk r l c).1 ≤ c + l.length ∧ ((tk r l c).2 = -1 ∨ 0 ≤ (tk r l c).2) := by
  intro l
  induction l with
  | nil => intro c; simp [tk]
  | cons g l ih =>
    intro c
    rw [tk]
    split
    · simp
    · split
      · rename_i h
        simp only [List.length_cons]
        exact ⟨Nat.le_refl _, by omega, .inr h⟩
      · have := ih (c + 1)
        simp only [List.length_cons]
        exact ⟨by omega, by omega, this.2.2⟩
def TRow.val (r : TRow) : Value := .agg #[.string (bs r.tag), .int .i64 r.least, .int .i64 r.most, .string (bs r.form)]
end Go.Proofs.YtcdebinldmblkaaGreatDoor
namespace Go.Proofs.YtcdebinldmblkaaGreatDoor
theorem frGo_neg (ls : List UInt8) (m : Nat) : ∀ (es : List (List ByteArray)) (k : Nat), frGo ls m es k = -1 ∨ 0 ≤ frGo ls m es k := by
  intro es
  induction es with
  | nil =>
    intro k
    unfold frGo
    split
    · exact .inr (by omega)
    · exact .inl rfl
  | cons e r ih =>
    intro k
    unfold frGo
    split
    · exact .inr (by omega)
    · split
      · exact .inr (by omega)
      · exact ih (k + 1)
theorem frV_neg (f : ByteArray) (es : List (List ByteArray)) : frV f es = -1 ∨ 0 ≤ frV f es := by
  unfold frV
  split
  · exact .inr (by omega)
  · split
    · exact .inr (by omega)
    · exact frGo_neg _ _ _ _
theorem tk_in (r : TRow) : ∀ (l : List Seg) (c : Nat), ¬ 0 ≤ (tk r l c).2 → ∀ j, c ≤ j → j < (tk r l c).1 → ∃ g, l[j - c]? = some g ∧ g.1 = bs r.tag ∧ frV (bs r.form) g.2 = -1 := by
  intro l
  induction l with
  | nil =>
    intro c _ j h1 h2
    simp only [tk] at h2
    omega
  | cons g l ih =>
    intro c h j h1 h2
    unfold tk at h h2
    split at h2
    · simp only at h2
      omega
    · rename_i hm
      rw [if_neg hm] at h
      split at h2
      · simp only at h2
        omega
      · rename_i hf
        rw [if_neg hf] at h
        rcases Nat.eq_or_lt_of_le h1 with rfl | h3
        · refine ⟨g, by simp, ?_, ?_⟩
          · apply Classical.byContradiction
            intro q
            exact hm (.inr q)
          · rcases frV_neg (bs r.form) g.2 with q | q
            · exact q
            · exact absurd q hf
        · obtain ⟨x, k1, k2, k3⟩ := ih (c + 1) h j h3 h2
          refine ⟨x, ?_, k2, k3⟩
          rw [show j - c = (j - (c + 1)) + 1 by omega, List.getElem?_cons_succ]
          exact k1
theorem tc_in (body : List Seg) : ∀ (rs : List TRow) (a : Nat) (last : ByteArray), (tc body rs a last).2.2 = 0 → ∀ j, a ≤ j → j < body.length → ∃ (k : Nat) (r : TRow) (g : Seg), rs[k]? = some r ∧ body[j]? = some g ∧ g.1 = bs r.tag ∧ frV (bs r.form) g.2 = -1 := by
  intro rs
  induction rs with
  | nil =>
    intro a last h j h1 h2
    unfold tc at h
    split at h
    · omega
    · split at h <;> simp at h
  | cons r rs ih =>
    intro a last h j h1 h2
    unfold tc at h
    split at h
    · simp at h
    · rename_i hk
      split at h
      · simp at h
      · rcases Nat.lt_or_ge j (a + (tk r (body.drop a) 0).1) with q | q
        · obtain ⟨g, k1, k2, k3⟩ := tk_in r (body.drop a) 0 hk (j - a) (Nat.zero_le _) (by omega)
          refine ⟨0, r, g, rfl, ?_, k2, k3⟩
          rw [List.getElem?_drop] at k1
          rw [← k1]
          congr 1
          omega
        · obtain ⟨k, x, g, k1, k2⟩ := ih _ _ h j q h2
          exact ⟨k + 1, x, g, k1, k2⟩
theorem rows_doc {n : Int} (h : 1 ≤ n ∧ n ≤ 7) : ∃ d rs, rowsI n = d :: rs ∧ d.tag = [68, 79, 67] ∧ d.least = 1 ∧ d.most = 1 ∧ ∀ r ∈ rs, r.tag ≠ [68, 79, 67] := by
  obtain rfl | rfl | rfl | rfl | rfl | rfl | rfl : n = 1 ∨ n = 2 ∨ n = 3 ∨ n = 4 ∨ n = 5 ∨ n = 6 ∨ n = 7 := by omega
  all_goals exact ⟨_, _, rfl, rfl, rfl, rfl, by decide⟩
theorem bs_inj {a b : List UInt8} (h : bs a = bs b) : a = b := by
  unfold bs at h
  simp only [ByteArray.mk.injEq, Array.mk.injEq] at h
  exact h
theorem tcV_each {n : Int} {body : List Seg} (h : (tcV n body).2.2 = 0) : (1 ≤ n ∧ n ≤ 7) ∧ body.length ≤ 400 ∧ ∀ (j : Nat) (g : Seg), body[j]? = some g → ∃ (k : Nat) (r : TRow), (rowsI n)[k]? = some r ∧ g.1 = bs r.tag ∧ frV (bs r.form) g.2 = -1 := by
  unfold tcV at h
  split at h
  · simp at h
  · rename_i h4
    split at h
    · rename_i hn
      refine ⟨hn, by omega, fun j g hj => ?_⟩
      obtain ⟨k, r, g', k1, k2, k3⟩ := tc_in body _ 0 _ h j (Nat.zero_le _) (List.getElem?_eq_some_iff.1 hj).1
      rw [hj] at k2
      cases k2
      exact ⟨k, r, k1, k3⟩
    · simp at h
theorem tcV_tail {n : Int} {body : List Seg} (h : (tcV n body).2.2 = 0) : 1 ≤ body.length ∧ tcV n (body.drop 1) = (0, 0, 4) := by
  obtain ⟨hn, h4, _⟩ := tcV_each h
  obtain ⟨d, rs, hd, d1, d2, d3, d4⟩ := rows_doc hn
  unfold tcV at h
  rw [if_neg (by omega), if_pos hn, hd] at h
  unfold tc at h
  split at h
  · simp at h
  · rename_i hk
    split at h
    · simp at h
    · rename_i hl
      rw [d2, List.drop_zero] at hl
      rw [List.drop_zero] at hk h
      have h1 : 1 ≤ (tk d body 0).1 := by omega
      have hle := (tk_le d body 0).2.1
      have hlen : 1 ≤ body.length := by omega
      have hc1 : (tk d body 0).1 = 1 := by
        cases body with
        | nil => simp at hlen
        | cons g l =>
          unfold tk at h1 hk ⊢
          split at h1
          · simp at h1
          · rename_i q1
            rw [if_neg q1] at hk ⊢
            split at h1
            · simp at h1
            · rename_i q2
              rw [if_neg q2]
              cases l with
              | nil => rfl
              | cons x l =>
                unfold tk
                rw [if_pos (.inl (by rw [d3]; rfl))]
      rw [hc1, Nat.zero_add] at h
      refine ⟨hlen, ?_⟩
      unfold tcV
      rw [if_neg (by rw [List.length_drop]; omega), if_pos hn, hd]
      have ht : tk d (body.drop 1) 0 = (0, -1) := by
        cases hb : body.drop 1 with
        | nil => rfl
        | cons x l =>
          have hx : body[1]? = some x := by
            have := congrArg (·[0]?) hb
            simpa [List.getElem?_drop] using this
          obtain ⟨k, r, g, k1, k2, k3, _⟩ := tc_in body rs 1 _ h 1 (Nat.le_refl _) (List.getElem?_eq_some_iff.1 hx).1
          rw [hx] at k2
          cases k2
          have hne : x.1 ≠ bs d.tag := fun e => d4 r (List.mem_of_getElem? k1) ((bs_inj (k3.symm.trans e)).trans d1)
          unfold tk
          rw [if_pos (.inr hne)]
      unfold tc
      rw [List.drop_zero, ht, if_neg (by decide), if_pos (by rw [d2]; decide)]
      rfl
end Go.Proofs.YtcdebinldmblkaaGreatDoor
namespace Go.Proofs.YtcdebinldmblkaaGreatDoor
open Go.ChangeShapes Go.WideShapes Go.ChangeAt Go.RowKit
/-- A line. -/
structure Ln where
  no : Int
  item : ByteArray
  qty : Int
  money : Int
  note : ByteArray
def Ln.val (l : Ln) : Value := .agg #[.int .i64 l.no, .string l.item, .int .i64 l.qty, .int .i64 l.money, .string l.note]
/-- A line's five cells. -/
def LnAt (W : World) (b o : Nat) (l : Ln) : Prop :=
  W.cell? ⟨b, o, none⟩ = some (.int .i64 l.no) ∧ W.cell? ⟨b, o + 1, none⟩ = some (.string l.item) ∧ W.cell? ⟨b, o + 2, none⟩ = some (.int .i64 l.qty) ∧ W.cell? ⟨b, o + 3, none⟩ = some (.int .i64 l.money) ∧ W.cell? ⟨b, o + 4, none⟩ = some (.string l.note)
theorem LnAt.below {W W' : World} {b o : Nat} {l : Ln} (h : LnAt W b o l) (hb : Below W.heap.size W W') : LnAt W' b o l := by
  obtain ⟨h0, h1, h2, h3, h4⟩ := h
  exact ⟨(hb.cell (cell_lt h0)).trans h0, (hb.cell (cell_lt h1)).trans h1, (hb.cell (cell_lt h2)).trans h2, (hb.cell (cell_lt h3)).trans h3, (hb.cell (cell_lt h4)).trans h4⟩
/-- A list of lines. -/
structure RowL (W : World) (v : Value) (ls : List Ln) : Prop where
  shape : ∃ a cap, v = .slice a ls.length cap ∧ (ls ≠ [] → ∃ b o, a = some ⟨b, o, none⟩ ∧ ∀ (i : Nat) (l : Ln), ls[i]? = some l → LnAt W b (o + i * 5) l)
  len : ls.length ≤ 9223372036854775807
  sizes : ∀ (i : Nat) (l : Ln), ls[i]? = some l → l.item.size ≤ 9223372036854775807 ∧ l.note.size ≤ 9223372036854775807
theorem RowL.below {W W' : World} {v : Value} {ls : List Ln} (h : RowL W v ls) (hb : Below W.heap.size W W') : RowL W' v ls := by
  obtain ⟨a, cap, e, hc⟩ := h.shape
  refine ⟨⟨a, cap, e, fun hn => ?_⟩, h.len, h.sizes⟩
  obtain ⟨b, o, ea, hcell⟩ := hc hn
  exact ⟨b, o, ea, fun i l hi => (hcell i l hi).below hb⟩
theorem RowL.at {W : World} {v : Value} {ls : List Ln} (h : RowL W v ls) {k : Nat} (hk : k < ls.length) : ∃ b o cap l, v = .slice (some ⟨b, o, none⟩) ls.length cap ∧ ls[k]? = some l ∧ LnAt W b (o + k * 5) l ∧ l.item.size ≤ 9223372036854775807 ∧ l.note.size ≤ 9223372036854775807 := by
  obtain ⟨a, cap, e, hc⟩ := h.shape
  obtain ⟨b, o, rfl, hcell⟩ := hc (by intro g; rw [g] at hk; simp at hk)
  have hs : ls[k]? = some ls[k] := List.getElem?_eq_getElem hk
  exact ⟨b, o, cap, _, e, hs, hcell k _ hs, h.sizes k _ hs⟩
theorem RowL.val {W : World} {v : Value} {ls : List Ln} (h : RowL W v ls) : ∃ a cap, v = .slice a ls.length cap := by
  obtain ⟨a, cap, e, _⟩ := h.shape
  exact ⟨a, cap, e⟩
def BdL (n : Nat) (ls : List Ln) : Prop := ls.length ≤ n ∧ ∀ (i : Nat) (l : Ln), ls[i]? = some l → l.item.size ≤ n ∧ l.note.size ≤ n
theorem BdL.mono {m n : Nat} {ls : List Ln} (h : BdL m ls) (hmn : m ≤ n) : BdL n ls := ⟨Nat.le_trans h.1 hmn, fun i l hi => ⟨Nat.le_trans (h.2 i l hi).1 hmn, Nat.le_trans (h.2 i l hi).2 hmn⟩⟩
/-- A paper. -/
structure Pap where
  kind : Int
  ref : ByteArray
  other : ByteArray
  day : Int
  notes : List ByteArray
  lines : List Ln
/-- A paper's value, its lists behind it. -/
def Pap.val (p : Pap) (vn vl : Value) : Value := .agg #[.int .i64 p.kind, .string p.ref, .string p.other, .int .i64 p.day, vn, vl]
/-- The two lists of a paper. -/
structure PapR (W : World) (vn vl : Value) (p : Pap) : Prop where
  ns : RowS W vn p.notes
  ls : RowL W vl p.lines
  rz : p.ref.size ≤ 9223372036854775807
  oz : p.other.size ≤ 9223372036854775807
theorem PapR.below {W W' : World} {vn vl : Value} {p : Pap} (h : PapR W vn vl p) (hb : Below W.heap.size W W') : PapR W' vn vl p := ⟨h.ns.below hb, h.ls.below hb, h.rz, h.oz⟩
def BdP (n : Nat) (p : Pap) : Prop := p.ref.size ≤ n ∧ p.other.size ≤ n ∧ BdS n p.notes ∧ BdL n p.lines
end Go.Proofs.YtcdebinldmblkaaGreatDoor
namespace Go.Proofs.YtcdebinldmblkaaGreatDoor
open Go.ChangeShapes Go.WideShapes Go.ChangeAt Go.RowKit
def isE (s : ByteArray) : Bool := s.toList.isEmpty
/-- Are there several, and is the last one empty? -/
def endsE (ss : List ByteArray) : Bool := decide (1 < ss.length) && isE (ss[ss.length - 1]?.getD ⟨#[]⟩)
/-- Is the last one one empty text? -/
def blank1 (ss : List ByteArray) : Bool := decide (ss.length = 1) && isE (ss[0]?.getD ⟨#[]⟩)
def blankB (es : List (List ByteArray)) : Bool := decide (0 < es.length) && blank1 (es[es.length - 1]?.getD [])
def elB (ss : List ByteArray) : Bool := decide (1 ≤ ss.length) && (decide (ss.length ≤ 4) && (!endsE ss && ss.all partB))
def rightG (tag : ByteArray) (es : List (List ByteArray)) : Bool := tagB tag && (decide (es.length ≤ 10) && (!blankB es && es.all elB))
theorem all_yes {α : Type} {p : α → Bool} {l : List α} (h : ∀ (j : Nat) (x : α), l[j]? = some x → p x = true) : l.all p = true := by
  rw [List.all_eq_true]
  intro x hx
  obtain ⟨j, hj⟩ := List.mem_iff_getElem?.1 hx
  exact h j x hj
theorem all_no {α : Type} {p : α → Bool} {l : List α} {k : Nat} {x : α} (h : l[k]? = some x) (hx : p x = false) : l.all p = false := by
  rw [List.all_eq_false]
  exact ⟨x, List.mem_of_getElem? h, by rw [hx]; simp⟩
set_option maxHeartbeats 1000000 in
theorem l02Empty_any (v : Value) (ss : List ByteArray) (w : World) (h : RowS w v ss) (hl : ss.length ≤ 1048576) : Calls Tryz.prog 51 #[.agg #[v]] w fun e w' => e = .returned (.bool (blank1 ss)) ∧ Below w.heap.size w w' := by
  obtain ⟨a, cap, rfl⟩ := h.val
  by_cases h1 : ss.length = 1
  · have h1' : ((ss.length : Int) == 1) = true := by rw [beq_iff_eq]; omega
    have hk : 0 < ss.length := by omega
    obtain ⟨b, o, c1, s, e, hs, hc, hsz⟩ := (h.below ((Below.refl _ _).alloc (Nat.le_refl _) (.cells #[.slice a ss.length cap] 75))).at hk
    simp only [Value.slice.injEq, true_and] at e
    obtain ⟨rfl, rfl⟩ := e
    have hB : blank1 ss = isE s := by unfold blank1; rw [hs]; simp [h1]
    rw [hB]
    clear hB hs h
    have hk' : (0 : Int) < (ss.length : Int) := by omega
    rw [Nat.add_zero] at hc
    clear h1 hk
    go_enter Tryz.func51, Tryz.ntmps51
    go_wp2_with fail
    first | (go_quiet (fail); go_wp2) | go_wp2
    go_ret
    exact ⟨rfl, by first | exact below_drewN ((Below.refl _ _).alloc (Nat.le_refl _) _) _ | exact (Below.refl _ _).alloc (Nat.le_refl _) _⟩
  · have h1' : ((ss.length : Int) == 1) = false := by rw [beq_eq_false_iff_ne]; omega
    have hB : blank1 ss = false := by unfold blank1; simp [h1]
    rw [hB]
    clear h
    go_enter Tryz.func51, Tryz.ntmps51
    go_wp2_with fail
    first | (go_quiet (fail); go_wp2) | go_wp2
    go_ret
    exact ⟨rfl, by first | exact below_drewN ((Below.refl _ _).alloc (Nat.le_refl _) _) _ | exact (Below.refl _ _).alloc (Nat.le_refl _) _⟩
end Go.Proofs.YtcdebinldmblkaaGreatDoor
namespace Go.Proofs.YtcdebinldmblkaaGreatDoor
open Go.ChangeShapes Go.WideShapes Go.ChangeAt Go.RowKit
theorem BdS.mono' {m n : Nat} {ss : List ByteArray} (h : BdS m ss) (hmn : m ≤ n) : BdS n ss := ⟨Nat.le_trans h.1 hmn, fun i s hi => Nat.le_trans (h.2 i s hi) hmn⟩
theorem BdG.mono {m n : Nat} {gs : List Seg} (h : BdG m gs) (hmn : m ≤ n) : BdG n gs := ⟨Nat.le_trans h.1 hmn, fun i g hi => ⟨Nat.le_trans (h.2 i g hi).1 hmn, Nat.le_trans (h.2 i g hi).2.1 hmn, fun j e hj => ((h.2 i g hi).2.2 j e hj).mono' hmn⟩⟩
/-- A Message. -/
structure Msg where
  num : Int
  body : List Seg
/-- What stands behind its cells. -/
structure RM (W : World) (u : Value) (r : Msg) : Prop where
  ls : RowG W u r.body
theorem RM.below {W W' : World} {u : Value} {r : Msg} (h : RM W u r) (hb : Below W.heap.size W W') : RM W' u r := ⟨h.ls.below hb⟩
def BdM (n : Nat) (r : Msg) : Prop := BdG n r.body
theorem BdM.mono {m n : Nat} {r : Msg} (h : BdM m r) (hmn : m ≤ n) : BdM n r := BdG.mono h hmn
def AtM (W : World) (b o : Nat) (u : Value) (r : Msg) : Prop :=
  W.cell? ⟨b, o, none⟩ = some (.int .i64 r.num) ∧ W.cell? ⟨b, o + 1, none⟩ = some (u)
theorem AtM.below {W W' : World} {b o : Nat} {u : Value} {r : Msg} (h : AtM W b o u r) (hb : Below W.heap.size W W') : AtM W' b o u r := by
  obtain ⟨h0, h1⟩ := h
  exact ⟨(hb.cell (cell_lt h0)).trans h0, (hb.cell (cell_lt h1)).trans h1⟩
/-- A list of such. -/
structure RowM (W : World) (v : Value) (rs : List Msg) : Prop where
  shape : ∃ a cap, v = .slice a rs.length cap ∧ (rs ≠ [] → ∃ b o, a = some ⟨b, o, none⟩ ∧ ∀ (i : Nat) (r : Msg), rs[i]? = some r → ∃ u, AtM W b (o + i * 2) u r ∧ RM W u r)
  len : rs.length ≤ 9223372036854775807
theorem RowM.below {W W' : World} {v : Value} {rs : List Msg} (h : RowM W v rs) (hb : Below W.heap.size W W') : RowM W' v rs := by
  obtain ⟨a, cap, e, hc⟩ := h.shape
  refine ⟨⟨a, cap, e, fun hn => ?_⟩, h.len⟩
  obtain ⟨b, o, ea, hcell⟩ := hc hn
  refine ⟨b, o, ea, fun i r hi => ?_⟩
  obtain ⟨u, h1, h2⟩ := hcell i r hi
  exact ⟨u, h1.below hb, h2.below hb⟩
theorem RowM.at {W : World} {v : Value} {rs : List Msg} (h : RowM W v rs) {k : Nat} (hk : k < rs.length) : ∃ b o cap r u, v = .slice (some ⟨b, o, none⟩) rs.length cap ∧ rs[k]? = some r ∧ AtM W b (o + k * 2) u r ∧ RM W u r := by
  obtain ⟨a, cap, e, hc⟩ := h.shape
  obtain ⟨b, o, rfl, hcell⟩ := hc (by intro g; rw [g] at hk; simp at hk)
  have hs : rs[k]? = some rs[k] := List.getElem?_eq_getElem hk
  obtain ⟨u, h1, h2⟩ := hcell k _ hs
  exact ⟨b, o, cap, _, u, e, hs, h1, h2⟩
theorem RowM.val {W : World} {v : Value} {rs : List Msg} (h : RowM W v rs) : ∃ a cap, v = .slice a rs.length cap := by
  obtain ⟨a, cap, e, _⟩ := h.shape
  exact ⟨a, cap, e⟩
def BdsM (n : Nat) (rs : List Msg) : Prop := rs.length ≤ n ∧ ∀ (i : Nat) (r : Msg), rs[i]? = some r → BdM n r
theorem BdsM.mono {m n : Nat} {rs : List Msg} (h : BdsM m rs) (hmn : m ≤ n) : BdsM n rs := ⟨Nat.le_trans h.1 hmn, fun i r hi => (h.2 i r hi).mono hmn⟩
/-- A Bundle. -/
structure Bun where
  kind : Int
  num : Int
  msgs : List Msg
/-- What stands behind its cells. -/
structure RB (W : World) (u : Value) (r : Bun) : Prop where
  ls : RowM W u r.msgs
theorem RB.below {W W' : World} {u : Value} {r : Bun} (h : RB W u r) (hb : Below W.heap.size W W') : RB W' u r := ⟨h.ls.below hb⟩
def BdB (n : Nat) (r : Bun) : Prop := BdsM n r.msgs
theorem BdB.mono {m n : Nat} {r : Bun} (h : BdB m r) (hmn : m ≤ n) : BdB n r := BdsM.mono h hmn
def AtB (W : World) (b o : Nat) (u : Value) (r : Bun) : Prop :=
  W.cell? ⟨b, o, none⟩ = some (.int .i64 r.kind) ∧ W.cell? ⟨b, o + 1, none⟩ = some (.int .i64 r.num) ∧ W.cell? ⟨b, o + 2, none⟩ = some (u)
theorem AtB.below {W W' : World} {b o : Nat} {u : Value} {r : Bun} (h : AtB W b o u r) (hb : Below W.heap.size W W') : AtB W' b o u r := by
  obtain ⟨h0, h1, h2⟩ := h
  exact ⟨(hb.cell (cell_lt h0)).trans h0, (hb.cell (cell_lt h1)).trans h1, (hb.cell (cell_lt h2)).trans h2⟩
/-- A list of such. -/
structure RowB (W : World) (v : Value) (rs : List Bun) : Prop where
  shape : ∃ a cap, v = .slice a rs.length cap ∧ (rs ≠ [] → ∃ b o, a = some ⟨b, o, none⟩ ∧ ∀ (i : Nat) (r : Bun), rs[i]? = some r → ∃ u, AtB W b (o + i * 3) u r ∧ RB W u r)
  len : rs.length ≤ 9223372036854775807
theorem RowB.below {W W' : World} {v : Value} {rs : List Bun} (h : RowB W v rs) (hb : Below W.heap.size W W') : RowB W' v rs := by
  obtain ⟨a, cap, e, hc⟩ := h.shape
  refine ⟨⟨a, cap, e, fun hn => ?_⟩, h.len⟩
  obtain ⟨b, o, ea, hcell⟩ := hc hn
  refine ⟨b, o, ea, fun i r hi => ?_⟩
  obtain ⟨u, h1, h2⟩ := hcell i r hi
  exact ⟨u, h1.below hb, h2.below hb⟩
theorem RowB.at {W : World} {v : Value} {rs : List Bun} (h : RowB W v rs) {k : Nat} (hk : k < rs.length) : ∃ b o cap r u, v = .slice (some ⟨b, o, none⟩) rs.length cap ∧ rs[k]? = some r ∧ AtB W b (o + k * 3) u r ∧ RB W u r := by
  obtain ⟨a, cap, e, hc⟩ := h.shape
  obtain ⟨b, o, rfl, hcell⟩ := hc (by intro g; rw [g] at hk; simp at hk)
  have hs : rs[k]? = some rs[k] := List.getElem?_eq_getElem hk
  obtain ⟨u, h1, h2⟩ := hcell k _ hs
  exact ⟨b, o, cap, _, u, e, hs, h1, h2⟩
theorem RowB.val {W : World} {v : Value} {rs : List Bun} (h : RowB W v rs) : ∃ a cap, v = .slice a rs.length cap := by
  obtain ⟨a, cap, e, _⟩ := h.shape
  exact ⟨a, cap, e⟩
def BdsB (n : Nat) (rs : List Bun) : Prop := rs.length ≤ n ∧ ∀ (i : Nat) (r : Bun), rs[i]? = some r → BdB n r
theorem BdsB.mono {m n : Nat} {rs : List Bun} (h : BdsB m rs) (hmn : m ≤ n) : BdsB n rs := ⟨Nat.le_trans h.1 hmn, fun i r hi => (h.2 i r hi).mono hmn⟩
/-- A Interchange. -/
structure Ixc where
  frm : ByteArray
  to : ByteArray
  num : Int
  buns : List Bun
/-- What stands behind its cells. -/
structure RI (W : World) (u : Value) (r : Ixc) : Prop where
  ls : RowB W u r.buns
  z_frm : r.frm.size ≤ 9223372036854775807
  z_to : r.to.size ≤ 9223372036854775807
theorem RI.below {W W' : World} {u : Value} {r : Ixc} (h : RI W u r) (hb : Below W.heap.size W W') : RI W' u r := ⟨h.ls.below hb, h.z_frm, h.z_to⟩
def BdI (n : Nat) (r : Ixc) : Prop := r.frm.size ≤ n ∧ r.to.size ≤ n ∧ BdsB n r.buns
theorem BdI.mono {m n : Nat} {r : Ixc} (h : BdI m r) (hmn : m ≤ n) : BdI n r := ⟨Nat.le_trans h.1 hmn, Nat.le_trans h.2.1 hmn, BdsB.mono h.2.2 hmn⟩
end Go.Proofs.YtcdebinldmblkaaGreatDoor
namespace Go.Proofs.YtcdebinldmblkaaGreatDoor
open Go.ChangeShapes Go.WideShapes Go.ChangeAt Go.RowKit
theorem row_mono {W : World} {n₀ n₁ e k : Nat} {v : Value} {xs : List Value} (h : W.ownsRow n₁ e 1 v k xs) (hn : n₀ ≤ n₁) : W.ownsRow n₀ e 1 v k xs := by
  rcases h.2 with h1 | ⟨g, cap, cur, h1, h2, h3⟩
  · exact ⟨h.1, .inl h1⟩
  · exact ⟨h.1, .inr ⟨g, cap, cur, h1, Nat.le_trans hn h2, h3⟩⟩
/-- Two rows of unlike elements lie apart. -/
theorem rows_apart {W : World} {n₀ n₁ e e' k k' : Nat} {v v' : Value} {xs xs' : List Value} (h : W.ownsRow n₀ e 1 v k xs) (h' : W.ownsRow n₁ e' 1 v' k' xs') (hne : e ≠ e') : v.ownBlock = none ∨ v.ownBlock ≠ v'.ownBlock := by
  rcases h.2 with ⟨rfl, _⟩ | ⟨g, cap, cur, rfl, _, hgb, _⟩
  · exact .inl rfl
  · refine .inr fun e1 => ?_
    rcases h'.2 with ⟨rfl, _⟩ | ⟨g', cap', cur', rfl, _, hgb', _⟩
    · simp [Value.ownBlock] at e1
    · obtain rfl : g = g' := by simpa [Value.ownBlock] using e1
      rw [hgb] at hgb'
      cases hgb'
      exact hne rfl
theorem row_lt {W : World} {n₁ e k : Nat} {v : Value} {xs : List Value} (h : W.ownsRow n₁ e 1 v k xs) {b : Nat} (hb : b < n₁) : some b ≠ v.ownBlock := by
  intro e1
  rcases h.2 with ⟨rfl, _⟩ | ⟨g, cap, cur, rfl, hg, _⟩
  · simp [Value.ownBlock] at e1
  · obtain rfl : b = g := by simpa [Value.ownBlock] using e1
    omega
theorem row_base {W : World} {n₀ e k : Nat} {v : Value} {xs : List Value} (h : W.ownsRow n₀ e 1 v k xs) : ∀ j, v.ownBlock = some j → n₀ ≤ j := by
  intro j ej
  rcases h.2 with ⟨rfl, _⟩ | ⟨g, cap, cur, rfl, hb, _, _⟩
  · simp [Value.ownBlock] at ej
  · obtain rfl : g = j := by simpa [Value.ownBlock] using ej
    exact hb
/-- A row of texts of the call's own reads as the list. -/
theorem own_rowS {W : World} {n₀ n : Nat} {v : Value} {ss : List ByteArray} (h : W.ownsRow n₀ 9 1 v n (ss.map Value.string)) (hn : n = ss.length) (hl : ss.length ≤ 1048576) (hz : ∀ t ∈ ss, t.size ≤ 40) : RowS W v ss := by
  subst hn
  refine ⟨?_, by omega, fun i t hi => Nat.le_trans (hz t (List.mem_of_getElem? hi)) (by omega)⟩
  rcases h.2 with ⟨rfl, h0⟩ | ⟨g, cap, cur, rfl, _⟩
  · exact ⟨none, 0, by rw [h0], fun hn => absurd (List.length_eq_zero_iff.1 h0) hn⟩
  · refine ⟨_, _, rfl, fun _ => ⟨g, 0, rfl, fun i t hi => ?_⟩⟩
    have h1 := h.cells (g := g) rfl i (.string t) (by simp [hi])
    have e : (⟨g, 0, none⟩ : Addr).add i = ⟨g, 0 + i, none⟩ := by unfold Addr.add; split <;> simp_all
    rwa [e] at h1
/-- Elements in rows of the call's own, each in a block for itself. -/
structure OwnV (n₀ : Nat) (W : World) (v : Value) (vals : List Value) (es : List (List ByteArray)) : Prop where
  len : vals.length = es.length
  row : W.ownsRow n₀ 75 1 v es.length vals
  parts : ∀ (i : Nat) (u : Value) (e : List ByteArray), vals[i]? = some u → es[i]? = some e → W.ownsRow n₀ 9 1 u e.length (e.map Value.string) ∧ 0 < e.length
  apart : ∀ (i j : Nat) (u x : Value), i < j → vals[i]? = some u → vals[j]? = some x → u.ownBlock ≠ x.ownBlock
def OwnEs (n₀ : Nat) (W : World) (v : Value) (es : List (List ByteArray)) : Prop := ∃ vals, OwnV n₀ W v vals es
theorem row_keep {n₀ t k : Nat} {W W' : World} {v : Value} {xs : List Value} (h : W.ownsRow n₀ t 1 v k xs) (hb : Below W.heap.size W W') : W'.ownsRow n₀ t 1 v k xs := by
  refine h.kept (show W.grownBy W' none from ⟨hb.os, hb.tape, hb.output, hb.size, fun k hk _ => hb.block k hk⟩) ?_
  cases v.ownBlock with
  | none => exact .inl rfl
  | some k => exact .inr (by simp)
theorem OwnV.below {n₀ : Nat} {W W' : World} {v : Value} {vals : List Value} {es : List (List ByteArray)} (h : OwnV n₀ W v vals es) (hb : Below W.heap.size W W') : OwnV n₀ W' v vals es :=
  ⟨h.len, row_keep h.row hb, fun i u e hu he => ⟨row_keep (h.parts i u e hu he).1 hb, (h.parts i u e hu he).2⟩, h.apart⟩
theorem OwnV.set {n₀ B : Nat} {W : World} {v : Value} {vals : List Value} {es : List (List ByteArray)} (h : OwnV n₀ W v vals es) (hB : B < n₀) (i : Nat) (x : Value) : OwnV n₀ (W.setCell ⟨B, i, none⟩ x) v vals es := by
  have k : ∀ {t k : Nat} {u : Value} {xs : List Value}, W.ownsRow n₀ t 1 u k xs → (W.setCell ⟨B, i, none⟩ x).ownsRow n₀ t 1 u k xs := fun hr => hr.kept (show W.grownBy (W.setCell ⟨B, i, none⟩ x) (some B) from ⟨rfl, rfl, rfl, by simp, fun k _ hk => Below.heap_setCell W ⟨B, i, none⟩ x k (fun e => hk (by rw [e]))⟩) (.inr (row_lt hr hB).symm)
  exact ⟨h.len, k h.row, fun i u e hu he => ⟨k (h.parts i u e hu he).1, (h.parts i u e hu he).2⟩, h.apart⟩
theorem OwnV.mono {n₀ n₁ : Nat} {W : World} {v : Value} {vals : List Value} {es : List (List ByteArray)} (h : OwnV n₁ W v vals es) (hn : n₀ ≤ n₁) : OwnV n₀ W v vals es :=
  ⟨h.len, row_mono h.row hn, fun i u e hu he => ⟨row_mono (h.parts i u e hu he).1 hn, (h.parts i u e hu he).2⟩, h.apart⟩
theorem row_own {n₀ t k : Nat} {W : World} {v : Value} {xs : List Value} (h : W.ownsRow n₀ t 1 v k xs) (hk : 0 < k) : ∃ g, v.ownBlock = some g ∧ g < W.heap.size ∧ n₀ ≤ g := by
  rcases h.2 with ⟨rfl, h0⟩ | ⟨g, cap, cur, rfl, hg, hgb, _⟩
  · omega
  · exact ⟨g, rfl, (Array.getElem?_eq_some_iff.1 hgb).1, hg⟩
/-- One element more. -/
theorem OwnV.push {n₀ : Nat} {W W2 W3 w4 : World} {v v' u : Value} {vals : List Value} {es : List (List ByteArray)} {e : List ByteArray} (h : OwnV n₀ W v vals es) (hn : n₀ ≤ W.heap.size) (hb2 : Below W.heap.size W W2) (hu : W2.ownsRow W.heap.size 9 1 u e.length (e.map Value.string)) (he : 0 < e.length) (hb3 : Below W2.heap.size W2 W3)
    (hown : w4.ownsRow n₀ 75 1 v' (es.length + 1) (vals ++ [u])) (hg : W3.grownBy w4 v.ownBlock) : OwnV n₀ w4 v' (vals ++ [u]) (es ++ [e]) := by
  have h3 := (h.below hb2).below hb3
  have u3 := row_keep hu hb3
  refine ⟨by simp [h.len], by simpa using hown, fun i x y hx hy => ?_, fun i j x y hij hx hy => ?_⟩
  · rcases Nat.lt_or_ge i vals.length with q | q
    · rw [List.getElem?_append_left q] at hx
      rw [List.getElem?_append_left (by rw [← h.len]; exact q)] at hy
      obtain ⟨p1, p2⟩ := h3.parts i x y hx hy
      exact ⟨p1.kept hg (rows_apart p1 h3.row (by decide)), p2⟩
    · have hi : i = vals.length := by
        have := (List.getElem?_eq_some_iff.1 hx).1
        simp at this
        omega
      subst hi
      rw [List.getElem?_append_right (Nat.le_refl _)] at hx
      rw [h.len, List.getElem?_append_right (Nat.le_refl _)] at hy
      simp at hx hy
      subst hx hy
      exact ⟨(row_mono u3 hn).kept hg (rows_apart u3 h3.row (by decide)), he⟩
  · rcases Nat.lt_or_ge j vals.length with q | q
    · rw [List.getElem?_append_left q] at hy
      rw [List.getElem?_append_left (by omega)] at hx
      exact h.apart i j x y hij hx hy
    · have hj : j = vals.length := by
        have := (List.getElem?_eq_some_iff.1 hy).1
        simp at this
        omega
      subst hj
      rw [List.getElem?_append_left hij] at hx
      rw [List.getElem?_append_right (Nat.le_refl _)] at hy
      simp at hy
      subst hy
      have hie : i < es.length := by rw [← h.len]; exact hij
      obtain ⟨p1, p2⟩ := h.parts i x _ hx (List.getElem?_eq_getElem hie)
      obtain ⟨g1, e1, l1, _⟩ := row_own p1 p2
      obtain ⟨g2, e2, _, l2⟩ := row_own hu he
      rw [e1, e2]
      simp
      omega
/-- Bounds of elements that were read. -/
def BdX (es : List (List ByteArray)) : Prop := ∀ e ∈ es, e.length ≤ 4 ∧ ∀ t ∈ e, t.size ≤ 40
theorem BdX.bdE {es : List (List ByteArray)} (h : BdX es) (hl : es.length ≤ 1048576) : BdE 1048576 es :=
  ⟨hl, fun i e hi => ⟨Nat.le_trans (h e (List.mem_of_getElem? hi)).1 (by omega), fun j t ht => Nat.le_trans ((h e (List.mem_of_getElem? hi)).2 t (List.mem_of_getElem? ht)) (by omega)⟩⟩
theorem OwnV.rowE {n₀ : Nat} {W : World} {v : Value} {vals : List Value} {es : List (List ByteArray)} (h : OwnV n₀ W v vals es) (hX : BdX es) (hl : es.length ≤ 1048576) : RowE W v es := by
  refine ⟨?_, by omega⟩
  rcases h.row.2 with ⟨rfl, h0⟩ | ⟨g, cap, cur, rfl, _⟩
  · exact ⟨none, 0, by rw [h0], fun hn => absurd (List.length_eq_zero_iff.1 h0) hn⟩
  · refine ⟨_, _, rfl, fun _ => ⟨g, 0, rfl, fun i e hi => ?_⟩⟩
    have hlt := (List.getElem?_eq_some_iff.1 hi).1
    have hv : vals[i]? = some (vals[i]'(by rw [h.len]; exact hlt)) := List.getElem?_eq_getElem _
    have h1 := h.row.cells (g := g) rfl i _ hv
    have e1 : (⟨g, 0, none⟩ : Addr).add i = ⟨g, 0 + i, none⟩ := by unfold Addr.add; split <;> simp_all
    rw [e1] at h1
    have hx := hX e (List.mem_of_getElem? hi)
    exact ⟨_, h1, own_rowS (h.parts i _ e hv hi).1 rfl (by omega) hx.2⟩
theorem infoElm : (Tryz.prog.info? 75).map (fun i => (i.zero, i.size, i.bytes)) = some (some (.agg #[.slice none 0 0]), 1, 24) := by kernel_rfl
theorem row_slice {n₀ t k : Nat} {W : World} {v : Value} {xs : List Value} (h : W.ownsRow n₀ t 1 v k xs) : ∃ A N C, v = .slice A N C := by
  rcases h.2 with ⟨rfl, _⟩ | ⟨g, cap, cur, rfl, _⟩
  · exact ⟨_, _, _, rfl⟩
  · exact ⟨_, _, _, rfl⟩
theorem row2_ne {W : World} {n₁ e k : Nat} {v : Value} {xs : List Value} (h : W.ownsRow n₁ e 2 v k xs) {b : Nat} (hb : b < n₁) : v.ownBlock ≠ some b := by
  intro e1
  rcases h.2 with ⟨rfl, _⟩ | ⟨g, cap, cur, rfl, hg, _⟩
  · simp [Value.ownBlock] at e1
  · have : g = b := by simpa [Value.ownBlock] using e1
    omega
theorem row2_below {n₀ t k : Nat} {W W' : World} {v : Value} {xs : List Value} (h : W.ownsRow n₀ t 2 v k xs) (hb : Below W.heap.size W W') : W'.ownsRow n₀ t 2 v k xs := by
  refine h.kept (show W.grownBy W' none from ⟨hb.os, hb.tape, hb.output, hb.size, fun k hk _ => hb.block k hk⟩) ?_
  cases v.ownBlock with
  | none => exact .inl rfl
  | some k => exact .inr (by simp)
theorem row2_lt {n₀ t k : Nat} {W : World} {v : Value} {xs : List Value} (h : W.ownsRow n₀ t 2 v k xs) : ∀ j, v.ownBlock = some j → j < W.heap.size := by
  intro j e1
  rcases h.2 with ⟨rfl, _⟩ | ⟨g, cap, cur, rfl, _, hgb, _⟩
  · simp [Value.ownBlock] at e1
  · have : g = j := by simpa [Value.ownBlock] using e1
    subst this
    exact (Array.getElem?_eq_some_iff.1 hgb).1
theorem row_grow {n₀ t k : Nat} {W W' : World} {v : Value} {xs : List Value} {row : Option Nat} (h : W.ownsRow n₀ t 1 v k xs) (hg : W.grownBy W' row) (hr : ∀ j, row = some j → j < n₀) : W'.ownsRow n₀ t 1 v k xs := by
  refine h.kept hg ?_
  cases hv : v.ownBlock with
  | none => exact .inl rfl
  | some j =>
    refine .inr fun e => ?_
    have h1 := hr j e.symm
    have h2 := row_base h j hv
    omega
theorem OwnV.grow {n₀ : Nat} {W W' : World} {v : Value} {vals : List Value} {es : List (List ByteArray)} {row : Option Nat} (h : OwnV n₀ W v vals es) (hg : W.grownBy W' row) (hr : ∀ j, row = some j → j < n₀) : OwnV n₀ W' v vals es :=
  ⟨h.len, row_grow h.row hg hr, fun i u e hu he => ⟨row_grow (h.parts i u e hu he).1 hg hr, (h.parts i u e hu he).2⟩, h.apart⟩
theorem row_same {t z n₀ k : Nat} {W W' : World} {v : Value} {xs : List Value} (h : W.ownsRow n₀ t z v k xs) (hs : ∀ g, v.ownBlock = some g → W'.heap[g]? = W.heap[g]?) : W'.ownsRow n₀ t z v k xs := by
  refine ⟨h.1, ?_⟩
  rcases h.2 with hn | ⟨g, cap, cur, rfl, hb, hgg, rest⟩
  · exact .inl hn
  · exact .inr ⟨g, cap, cur, rfl, hb, (hs g rfl).trans hgg, rest⟩
theorem row_at {t z n₀ k g : Nat} {W : World} {v : Value} {xs : List Value} (h : W.ownsRow n₀ t z v k xs) (hg : v.ownBlock = some g) : n₀ ≤ g ∧ g < W.heap.size ∧ ∃ c, W.heap[g]? = some (.cells c t (0, 0)) := by
  rcases h.2 with ⟨rfl, _⟩ | ⟨g1, cap, cur, rfl, hb, hg1, _⟩
  · simp [Value.ownBlock] at hg
  · have a1 : g1 = g := by simpa [Value.ownBlock] using hg
    subst a1
    exact ⟨hb, (Array.getElem?_eq_some_iff.1 hg1).1, cur, hg1⟩
theorem obj_apart {W : World} {n₀ n₁ e e' z z' k k' : Nat} {v v' : Value} {xs xs' : List Value} (h : W.ownsRow n₀ e z v k xs) (h' : W.ownsRow n₁ e' z' v' k' xs') (hne : e ≠ e') : ∀ g, v.ownBlock = some g → v'.ownBlock ≠ some g := by
  intro g e1 e2
  obtain ⟨_, _, c1, h1⟩ := row_at h e1
  obtain ⟨_, _, c2, h2⟩ := row_at h' e2
  rw [h1] at h2
  simp at h2
  exact hne h2.2
theorem OwnV.same {n₀ : Nat} {W W' : World} {v : Value} {vals : List Value} {es : List (List ByteArray)} (h : OwnV n₀ W v vals es) (hs : ∀ g, n₀ ≤ g → g < W.heap.size → (∃ c t, W.heap[g]? = some (.cells c t (0, 0)) ∧ t ≠ 46) → W'.heap[g]? = W.heap[g]?) : OwnV n₀ W' v vals es := by
  refine ⟨h.len, row_same h.row fun g hg => ?_, fun i u e hu he => ⟨row_same (h.parts i u e hu he).1 fun g hg => ?_, (h.parts i u e hu he).2⟩, h.apart⟩
  · obtain ⟨h1, h2, c, h3⟩ := row_at h.row hg
    exact hs g h1 h2 ⟨c, _, h3, by decide⟩
  · obtain ⟨h1, h2, c, h3⟩ := row_at (h.parts i u e hu he).1 hg
    exact hs g h1 h2 ⟨c, _, h3, by decide⟩
theorem OwnV.grow2 {n₀ n1 k : Nat} {W W' : World} {v lv : Value} {vals xs : List Value} {es : List (List ByteArray)} (h : OwnV n₀ W v vals es) (hg : W.grownBy W' lv.ownBlock) (hl : W.ownsRow n1 46 2 lv k xs) : OwnV n₀ W' v vals es :=
  h.same fun g _ hlt ⟨c, t, hc, ht⟩ => hg.block g hlt (fun e => by
    obtain ⟨_, _, c2, h2⟩ := row_at hl e.symm
    rw [hc] at h2
    simp at h2
    exact ht h2.2)
theorem OwnV.base {n₀ : Nat} {W : World} {v : Value} {vals : List Value} {es : List (List ByteArray)} (h : OwnV n₀ W v vals es) : ∀ x ∈ v :: vals, ∀ b, x.ownBlock = some b → n₀ ≤ b ∧ b < W.heap.size := by
  intro x hx b hb
  rcases List.mem_cons.1 hx with rfl | hx
  · obtain ⟨h1, h2, _⟩ := row_at h.row hb
    exact ⟨h1, h2⟩
  · obtain ⟨i, hi⟩ := List.getElem?_of_mem hx
    have hlt := (List.getElem?_eq_some_iff.1 hi).1
    rw [h.len] at hlt
    obtain ⟨h1, h2, _⟩ := row_at (h.parts i x _ hi (List.getElem?_eq_getElem hlt)).1 hb
    exact ⟨h1, h2⟩
/-- The cells of a list of segments. -/
def cellsL (gs : List Seg) (ps : List (Value × List Value)) : List Value := (gs.zip ps).flatMap fun x => [.string x.1.1, x.2.1]
theorem cellsL_snoc {gs : List Seg} {ps : List (Value × List Value)} (h : ps.length = gs.length) (g : Seg) (p : Value × List Value) : cellsL (gs ++ [g]) (ps ++ [p]) = cellsL gs ps ++ [.string g.1, p.1] := by
  unfold cellsL
  rw [List.zip_append h.symm]
  simp
theorem cellsL_get {gs : List Seg} {ps : List (Value × List Value)} {i : Nat} {g : Seg} {p : Value × List Value} (hg : gs[i]? = some g) (hp : ps[i]? = some p) : (cellsL gs ps)[i * 2]? = some (.string g.1) ∧ (cellsL gs ps)[i * 2 + 1]? = some p.1 := by
  induction gs generalizing ps i with
  | nil => simp at hg
  | cons g1 gs ih =>
    cases ps with
    | nil => simp at hp
    | cons p1 ps =>
      have e : cellsL (g1 :: gs) (p1 :: ps) = .string g1.1 :: p1.1 :: cellsL gs ps := by simp [cellsL]
      rw [e]
      cases i with
      | zero =>
        simp at hg hp
        subst hg hp
        simp
      | succ i =>
        simp at hg hp
        have := ih hg hp
        rw [show (i + 1) * 2 = i * 2 + 1 + 1 by omega]
        simpa using this
/-- Segments in rows of the call's own, no two of which share a block. -/
structure OwnL (n₀ : Nat) (W : World) (v : Value) (ps : List (Value × List Value)) (gs : List Seg) : Prop where
  len : ps.length = gs.length
  row : W.ownsRow n₀ 46 2 v gs.length (cellsL gs ps)
  segs : ∀ (i : Nat) (p : Value × List Value) (g : Seg), ps[i]? = some p → gs[i]? = some g → OwnV n₀ W p.1 p.2 g.2
  sep : ∀ (i j : Nat) (p q : Value × List Value), i < j → ps[i]? = some p → ps[j]? = some q → ∀ x ∈ p.1 :: p.2, ∀ y ∈ q.1 :: q.2, ∀ b, x.ownBlock = some b → y.ownBlock ≠ some b
theorem OwnL.nil (n₀ : Nat) (W : World) : OwnL n₀ W (.slice none 0 0) [] [] := ⟨rfl, World.ownsRow_nil _ _ _ _, fun i p g h => by simp at h, fun i j p q _ h => by simp at h⟩
theorem OwnL.below {n₀ : Nat} {W W' : World} {v : Value} {ps : List (Value × List Value)} {gs : List Seg} (h : OwnL n₀ W v ps gs) (hb : Below W.heap.size W W') : OwnL n₀ W' v ps gs :=
  ⟨h.len, row2_below h.row hb, fun i p g hp hg => (h.segs i p g hp hg).below hb, h.sep⟩
theorem OwnL.mono {n₀ n₁ : Nat} {W : World} {v : Value} {ps : List (Value × List Value)} {gs : List Seg} (h : OwnL n₁ W v ps gs) (hn : n₀ ≤ n₁) : OwnL n₀ W v ps gs := by
  refine ⟨h.len, ⟨h.row.1, ?_⟩, fun i p g hp hg => (h.segs i p g hp hg).mono hn, h.sep⟩
  rcases h.row.2 with h1 | ⟨g, cap, cur, e, hb, rest⟩
  · exact .inl h1
  · exact .inr ⟨g, cap, cur, e, by omega, rest⟩
theorem OwnL.keepB {n₀ : Nat} {W W' : World} {v : Value} {ps : List (Value × List Value)} {gs : List Seg} (h : OwnL n₀ W v ps gs) (hs : ∀ g, n₀ ≤ g → g < W.heap.size → W'.heap[g]? = W.heap[g]?) : OwnL n₀ W' v ps gs :=
  ⟨h.len, row_same h.row fun g hg => hs g (row_at h.row hg).1 (row_at h.row hg).2.1, fun i p g hp hg => (h.segs i p g hp hg).same fun k h1 h2 _ => hs k h1 h2, h.sep⟩
theorem OwnL.set {n₀ B : Nat} {W : World} {v : Value} {ps : List (Value × List Value)} {gs : List Seg} (h : OwnL n₀ W v ps gs) (hB : B < n₀) (i : Nat) (x : Value) : OwnL n₀ (W.setCell ⟨B, i, none⟩ x) v ps gs :=
  h.keepB fun g hg _ => Below.heap_setCell W ⟨B, i, none⟩ x g (show g ≠ B by omega)
theorem OwnL.slice {n₀ : Nat} {W : World} {v : Value} {ps : List (Value × List Value)} {gs : List Seg} (h : OwnL n₀ W v ps gs) : ∃ A C, v = .slice A gs.length C := by
  rcases h.row.2 with ⟨rfl, h0⟩ | ⟨g, cap, cur, rfl, _⟩
  · exact ⟨none, 0, by rw [h0]⟩
  · exact ⟨_, _, rfl⟩
end Go.Proofs.YtcdebinldmblkaaGreatDoor
namespace Go.Proofs.YtcdebinldmblkaaGreatDoor
/-- A number told. -/
def decS (n : Int) : ByteArray := ⟨(Lib.itoa n).toArray⟩
end Go.Proofs.YtcdebinldmblkaaGreatDoor
