/- Texts of ours put together: IxRp, PartF. -/
import Derived.Test.YtjnikogaleofaaaDoorG12
import Derived.Test.YtjnikogaleofaaaDoorG17
import Derived.Test.YtjnikogaleofaaaDoorG19
import Derived.Test.YtjnikogaleofaaaDoorG00
namespace Go.Proofs.YtjnikogaleofaaaDoor
open Go.ChangeShapes Go.WideShapes Go.ChangeAt Go.RowKit
/-- The code of a segment as the trailer of an envelope of that number, behind so many things. -/
def endC (n : Int) (cnt : Nat) (g : Seg) : Int := match g.2 with
  | [[a], [b]] => if (numT a.data.toList).isSome && (numT b.data.toList).isSome then (if a = decS (cnt : Int) ∧ b = decS n then 0 else 5) else 3
  | _ => 3
/-- What a head of two numbers tells: the kind, the number. -/
def hdGR (g : Seg) : Option (Int × Int) := match g.2 with
  | [[a], [b]] => match numIn a.data.toList 1 7, numIn b.data.toList 1 999999 with
    | some k, some n => some (k, n)
    | _, _ => none
  | _ => none
/-- What a head of one number tells. -/
def hdMS (g : Seg) : Option Int := match g.2 with
  | [[a]] => numIn a.data.toList 1 999999
  | _ => none
/-- What is open: the bundles that are read, the open bundle's kind, number and messages, the open message's number and body. -/
structure RdS where
  bs : List Bun
  k : Int
  n : Int
  ms : List Msg
  mn : Int
  bd : List Seg
/-- What one segment comes to: a code, or the state that is next (0: a bundle or the end; 1: a message or the bundle's end; 2: a segment or the message's end; 3: nothing). -/
def rdStep (num : Int) (ph : Nat) (s : RdS) (g : Seg) : Int ⊕ (Nat × RdS) :=
  if ph = 0 then
    if g.1 = ⟨#[73, 88, 84]⟩ then
      if s.bs = [] then .inl 3 else if endC num s.bs.length g = 0 then .inr (3, s) else .inl (endC num s.bs.length g)
    else if g.1 = ⟨#[71, 82, 72]⟩ ∧ s.bs.length ≠ 5 then
      match hdGR g with
      | some (k, n) => .inr (1, { s with k := k, n := n, ms := [] })
      | none => .inl 3
    else .inl 3
  else if ph = 1 then
    if g.1 = ⟨#[71, 82, 84]⟩ then
      if s.ms = [] then .inl 3 else if endC s.n s.ms.length g = 0 then .inr (0, { s with bs := s.bs ++ [⟨s.k, s.n, s.ms⟩] }) else .inl (endC s.n s.ms.length g)
    else if g.1 = ⟨#[77, 83, 72]⟩ ∧ s.ms.length ≠ 10 then
      match hdMS g with
      | some n => .inr (2, { s with mn := n, bd := [] })
      | none => .inl 3
    else .inl 3
  else if ph = 2 then
    if g.1 = ⟨#[77, 83, 84]⟩ then
      if endC s.mn s.bd.length g = 0 then .inr (1, { s with ms := s.ms ++ [⟨s.mn, s.bd⟩] }) else .inl (endC s.mn s.bd.length g)
    else if bodyB g = true ∧ s.bd.length ≠ 40 then .inr (2, { s with bd := s.bd ++ [g] })
    else .inl 3
  else .inl 3
/-- What all come to: the code, how many were read, the bundles. -/
def rdIx (num : Int) : List Seg → Nat → RdS → Int × Nat × List Bun
  | [], ph, s => (if ph = 3 then 0 else 4, 0, s.bs)
  | g :: r, ph, s => match rdStep num ph s g with
    | .inl c => (c, 0, s.bs)
    | .inr (ph', s') => ((rdIx num r ph' s').1, (rdIx num r ph' s').2.1 + 1, (rdIx num r ph' s').2.2)
theorem rdIx_stop {num : Int} {gs : List Seg} {at_ ph : Nat} {s : RdS} {g : Seg} {c : Int} (hg : gs[at_]? = some g) (h : rdStep num ph s g = .inl c) : rdIx num (gs.drop at_) ph s = (c, 0, s.bs) := by
  obtain ⟨hlt, e⟩ := List.getElem?_eq_some_iff.1 hg
  rw [List.drop_eq_getElem_cons hlt, e, rdIx, h]
theorem rdIx_next {num : Int} {gs : List Seg} {at_ ph ph' : Nat} {s s' : RdS} {g : Seg} (hg : gs[at_]? = some g) (h : rdStep num ph s g = .inr (ph', s')) : rdIx num (gs.drop at_) ph s = ((rdIx num (gs.drop (at_ + 1)) ph' s').1, (rdIx num (gs.drop (at_ + 1)) ph' s').2.1 + 1, (rdIx num (gs.drop (at_ + 1)) ph' s').2.2) := by
  obtain ⟨hlt, e⟩ := List.getElem?_eq_some_iff.1 hg
  rw [List.drop_eq_getElem_cons hlt, e, rdIx, h]
theorem rdIx_end {num : Int} {gs : List Seg} {at_ ph : Nat} {s : RdS} (h : gs.length ≤ at_) : rdIx num (gs.drop at_) ph s = (if ph = 3 then 0 else 4, 0, s.bs) := by
  rw [List.drop_of_length_le h, rdIx]
end Go.Proofs.YtjnikogaleofaaaDoor
namespace Go.Proofs.YtjnikogaleofaaaDoor
open Go.ChangeShapes Go.WideShapes Go.ChangeAt Go.RowKit
/-- The part of that place of the element of that place. -/
def partF (es : List (List ByteArray)) (el part : Int) : ByteArray :=
  if 0 ≤ el ∧ el < es.length then
    if 0 ≤ part ∧ part < (es[el.toNat]?.getD []).length then (es[el.toNat]?.getD [])[part.toNat]?.getD ⟨#[]⟩ else ⟨#[]⟩
  else ⟨#[]⟩
end Go.Proofs.YtjnikogaleofaaaDoor
