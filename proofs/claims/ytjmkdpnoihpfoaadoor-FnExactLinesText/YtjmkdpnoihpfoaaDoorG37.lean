/- Texts of ours put together: BkP. -/
import Derived.Test.YtjmkdpnoihpfoaaDoorG02
import Derived.Test.YtjmkdpnoihpfoaaDoorG35
namespace Go.Proofs.YtjmkdpnoihpfoaaDoor
open Go.ChangeShapes Go.WideShapes Go.ChangeAt Go.RowKit
structure StOk (s : Stk) : Prop where
  n : nameB s.item = true
  h0 : 0 ≤ s.hand
  h1 : s.hand ≤ 1000000000
def befS (a b : Stk) : Bool := Op.bytesLess a.item.toList b.item.toList
/-- What is asked at place i. -/
structure OkS (rs : List Stk) (i : Nat) (c : Stk) : Prop where
  ok : StOk c
  rise : ∀ d, 0 < i → rs[i - 1]? = some d → befS d c = true
structure RightS (rs : List Stk) : Prop where
  len : rs.length ≤ 100
  at_ : ∀ i c, rs[i]? = some c → OkS rs i c
open Classical in
noncomputable def stsB (rs : List Stk) : Bool := decide (RightS rs)
theorem stsB_yes {rs : List Stk} (h : RightS rs) : stsB rs = true := by simp [stsB, h]
theorem stsB_no {rs : List Stk} (h : ¬ RightS rs) : stsB rs = false := by simp [stsB, h]
theorem stsB_iff {rs : List Stk} : stsB rs = true ↔ RightS rs := by simp [stsB]
theorem befS_trans {a b c : Stk} (h1 : befS a b = true) (h2 : befS b c = true) : befS a c = true := bl_trans h1 h2
theorem befS_irrefl (a : Stk) : befS a a = false := bl_irrefl _
theorem riseS_all {rs : List Stk} : ∀ {k : Nat}, (∀ i c, i ≤ k → rs[i]? = some c → OkS rs i c) → ∀ i d c, i < k → rs[i]? = some d → rs[k]? = some c → befS d c = true
  | 0, _, i, _, _, h, _, _ => by omega
  | k + 1, h, i, d, c, hi, hd, hc => by
    have hk : k < rs.length := by have := (List.getElem?_eq_some_iff.1 hc).1; omega
    have e := List.getElem?_eq_getElem hk
    have h1 := (h (k + 1) c (Nat.le_refl _) hc).rise rs[k] (by omega) e
    rcases Nat.lt_or_ge i k with g | g
    · exact befS_trans (riseS_all (fun i c hi => h i c (by omega)) i d rs[k] g hd e) h1
    · obtain rfl : i = k := by omega
      rw [hd] at e
      cases e
      exact h1
theorem RightS.pair {rs : List Stk} (h : RightS rs) : rs.Pairwise fun a b => befS a b = true := by
  rw [List.pairwise_iff_getElem]
  intro i j hi hj hij
  exact riseS_all (k := j) (fun i c _ hc => h.at_ i c hc) i _ _ hij (List.getElem?_eq_getElem hi) (List.getElem?_eq_getElem hj)
theorem RightS.ok {rs : List Stk} (h : RightS rs) : ∀ c ∈ rs, StOk c := fun c hc => by
  obtain ⟨i, hi⟩ := List.mem_iff_getElem?.1 hc
  exact (h.at_ i c hi).ok
theorem RightS.of_pair {rs : List Stk} (hl : rs.length ≤ 100) (ho : ∀ c ∈ rs, StOk c) (hp : rs.Pairwise fun a b => befS a b = true) : RightS rs := by
  rw [List.pairwise_iff_getElem] at hp
  refine ⟨hl, fun i c hc => ?_⟩
  obtain ⟨hi, e⟩ := List.getElem?_eq_some_iff.1 hc
  refine ⟨ho c (List.mem_of_getElem? hc), fun d h0 hd => ?_⟩
  obtain ⟨hi', e'⟩ := List.getElem?_eq_some_iff.1 hd
  have := hp (i - 1) i hi' hi (by omega)
  rwa [e, e'] at this
/-- A right book. -/
noncomputable def bkB (b : Bk) : Bool := stsB b.stocks && lnsB b.lines
theorem bkB_iff {b : Bk} : bkB b = true ↔ RightS b.stocks ∧ RightL b.lines := by simp [bkB, stsB_iff, lnsB_iff]
/-- The first of a name. -/
def findS (item : ByteArray) (rs : List Stk) : Option Stk := rs.find? fun s => s.item.toList == item.toList
noncomputable def handT (b : Bk) (item : ByteArray) : Int := if bkB b = true then ((findS item b.stocks).map Stk.hand).getD 0 else 0
/-- Is it a line of that Partner and that Item? -/
def ofB (p i : ByteArray) (l : OLn) : Bool := (l.item.toList == i.toList) && (p.toList.isEmpty || (l.partner.toList == p.toList))
def sumL (f : OLn → Int) : List OLn → Int
  | [] => 0
  | l :: r => f l + sumL f r
theorem sumL_app (f : OLn → Int) : ∀ a b : List OLn, sumL f (a ++ b) = sumL f a + sumL f b
  | [], b => by simp [sumL]
  | x :: r, b => by simp [sumL, sumL_app f r b]; omega
noncomputable def sumT (f : OLn → Int) (b : Bk) (p i : ByteArray) : Int := if bkB b = true then sumL f (b.lines.filter (ofB p i)) else 0
theorem sumL_bound {f : OLn → Int} {m : Int} (hm : 0 ≤ m) : ∀ {ls : List OLn}, (∀ l ∈ ls, 0 ≤ f l ∧ f l ≤ m) → 0 ≤ sumL f ls ∧ sumL f ls ≤ m * (ls.length : Int)
  | [], _ => by simp [sumL]
  | l :: r, h => by
    have h1 := h l (by simp)
    have h2 := sumL_bound hm (ls := r) fun x hx => h x (by simp [hx])
    simp only [sumL, List.length_cons]
    have : m * ((r.length + 1 : Nat) : Int) = m * (r.length : Int) + m := by
      rw [Int.natCast_add, Int.mul_add]; simp
    omega
theorem opnT_bound (l : OLn) : 0 ≤ opnT l ∧ opnT l ≤ 1000000 := by
  by_cases h : LnOk l
  · rw [opnT_yes h]
    have := h.o2; have := h.s0; have := h.c0; have := h.co; have := h.so
    omega
  · rw [opnT_no h]; omega
theorem trnT_bound (l : OLn) : 0 ≤ trnT l ∧ trnT l ≤ 1000000 := by
  by_cases h : LnOk l
  · rw [trnT_yes h]
    have := h.o2; have := h.g0; have := h.gs; have := h.so
    omega
  · rw [trnT_no h]; omega
end Go.Proofs.YtjmkdpnoihpfoaaDoor
