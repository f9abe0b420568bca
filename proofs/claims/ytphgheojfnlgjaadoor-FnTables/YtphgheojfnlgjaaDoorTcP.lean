/- Plain definitions: what FormRight, a row's taking and TableCheck tell. -/
import Derived.Test.YtphgheojfnlgjaaDoorFormP
import Derived.Test.YtphgheojfnlgjaaDoorRowG
import Derived.Test.YtphgheojfnlgjaaDoorTabOwn
namespace Go.Proofs.YtphgheojfnlgjaaDoor
def frGo (ls : List UInt8) (m : Nat) : List (List ByteArray) → Nat → Int
  | [], k => if k < m then (k : Int) else -1
  | e :: r, k => if ls.length ≤ k then (k : Int) else if elemB ((ls[k]?.getD 0).toNat : Int) e = false then (k : Int) else frGo ls m r (k + 1)
def frV (f : ByteArray) (es : List (List ByteArray)) : Int := if 20000 < f.size then 0 else match formF f.data.toList with
  | none => 0
  | some (ls, m) => frGo ls m es 0
theorem frGo_out (ls : List UInt8) (m : Nat) (es : List (List ByteArray)) : ∀ (n k : Nat), es.length - k = n → k ≤ es.length → (∀ j, j < k → ¬ badAt ls es j) → FrOut ls m es (frGo ls m (es.drop k) k) := by
  intro n
  induction n with
  | zero =>
    intro k hn hk hA
    obtain rfl : k = es.length := by omega
    rw [List.drop_length, frGo]
    refine .inr ⟨hA, ?_⟩
    by_cases h : es.length < m
    · rw [if_pos h]; exact .inl ⟨h, rfl⟩
    · rw [if_neg h]; exact .inr ⟨by omega, rfl⟩
  | succ n ih =>
    intro k hn hk hA
    have hlt : k < es.length := by omega
    rw [List.drop_eq_getElem_cons hlt, frGo]
    by_cases h1 : ls.length ≤ k
    · rw [if_pos h1]; exact .inl ⟨k, hlt, rfl, .inl h1, hA⟩
    · rw [if_neg h1]
      by_cases h2 : elemB ((ls[k]?.getD 0).toNat : Int) es[k] = false
      · rw [if_pos h2]
        refine .inl ⟨k, hlt, rfl, .inr ?_, hA⟩
        rw [List.getElem?_eq_getElem hlt]
        exact h2
      · rw [if_neg h2]
        refine ih (k + 1) (by omega) (by omega) fun j hj => ?_
        rcases Nat.lt_or_ge j k with g | g
        · exact hA j g
        · obtain rfl : j = k := by omega
          rintro (g | g)
          · exact h1 g
          · rw [List.getElem?_eq_getElem hlt] at g
            exact h2 g
theorem frV_is {f : ByteArray} {es : List (List ByteArray)} {r : Int} (h : FrO f es r) : r = frV f es := by
  refine FrO.one h ?_
  unfold FrO frV
  by_cases hf : 20000 < f.size
  · rw [if_pos hf, if_pos hf]
  · rw [if_neg hf, if_neg hf]
    cases hc : formF f.data.toList with
    | none => rfl
    | some p => exact frGo_out p.1 p.2 es _ 0 rfl (by omega) (fun j hj => by omega)
/-- How many segments are the row's, and the place of an element that is none. -/
def tk (r : TRow) : List Seg → Nat → Nat × Int
  | [], c => (c, -1)
  | g :: l, c => if (c : Int) = r.most ∨ g.1 ≠ bs r.tag then (c, -1) else if 0 ≤ frV (bs r.form) g.2 then (c, frV (bs r.form) g.2) else tk r l (c + 1)
/-- What the table tells: at, el, code. -/
def tc (body : List Seg) : List TRow → Nat → ByteArray → Int × Int × Int
  | [], a, last => if a = body.length then (0, 0, 0) else if (body[a]?.map (·.1)).getD ⟨#[]⟩ = last then ((a : Int), 0, 7) else ((a : Int), 0, 3)
  | r :: rs, a, _ =>
    if 0 ≤ (tk r (body.drop a) 0).2 then ((a : Int) + ((tk r (body.drop a) 0).1 : Int), (tk r (body.drop a) 0).2, 3)
    else if ((tk r (body.drop a) 0).1 : Int) < r.least then ((a : Int) + ((tk r (body.drop a) 0).1 : Int), 0, 4)
    else tc body rs (a + (tk r (body.drop a) 0).1) (bs r.tag)
def tcV (n : Int) (body : List Seg) : Int × Int × Int := if 400 < body.length then (0, 0, 2) else if 1 ≤ n ∧ n ≤ 7 then tc body (rowsI n) 0 (bs []) else (0, 0, 1)
theorem tk_le (r : TRow) : ∀ (l : List Seg) (c : Nat), c ≤ (tk r l c).1 ∧ (tk r l c).1 ≤ c + l.length ∧ ((tk r l c).2 = -1 ∨ 0 ≤ (tk r l c).2) := by
  intro l
  induction l with
  | nil => intro c; simp [tk]
  | cons g l ih =>
    intro c
    rw [tk]
    split
    · simp
    · split
      · rename_i h
        simp only [List.length_cons]
        exact ⟨Nat.le_refl _, by omega, .inr h⟩
      · have := ih (c + 1)
        simp only [List.length_cons]
        exact ⟨by omega, by omega, this.2.2⟩
def TRow.val (r : TRow) : Value := .agg #[.string (bs r.tag), .int .i64 r.least, .int .i64 r.most, .string (bs r.form)]
end Go.Proofs.YtphgheojfnlgjaaDoor
