/- Where an order stands: pure. -/
import Derived.Test.YtppfobeencnbdaaThP
import Derived.Test.YtppfobeencnbdaaLnGp
namespace Go.Proofs.Ytppfobeencnbdaa
open Go.ChangeShapes Go.WideShapes Go.ChangeAt Go.RowKit
/-- Is it a line of that Partner and Ref? -/
def ofR (p r : ByteArray) (c : OLn) : Bool := c.partner.toList == p.toList && c.ref.toList == r.toList
theorem ofR_iff {p r : ByteArray} {c : OLn} : ofR p r c = true ↔ c.partner.toList = p.toList ∧ c.ref.toList = r.toList := by simp [ofR]
/-- Where all lines of a list stand together, of which there is at least one; z0: where the first one stands. -/
noncomputable def alkT (z0 : Int) (ls : List OLn) : Bool := ls.all fun c => decide (stT c = z0)
noncomputable def clsT (ls : List OLn) : Bool := ls.all fun c => clZ (stT c)
noncomputable def fstT (ls : List OLn) : Int := match ls with
  | [] => 0
  | c :: _ => stT c
noncomputable def allT (ls : List OLn) : Int := if alkT (fstT ls) ls = true then fstT ls else if clsT ls = true then 4 else 2
/-- What ThreeOrder tells. -/
noncomputable def ordT (rs : List OLn) (p r : ByteArray) : Int :=
  if p.size ≤ 20000 ∧ r.size ≤ 20000 ∧ lnsB rs = true then (if rs.filter (ofR p r) = [] then 0 else allT (rs.filter (ofR p r))) else 0
theorem filter_take {p r : ByteArray} : ∀ (ls : List OLn), ls.Pairwise (fun a b => befL a b = true) → (∀ c ∈ ls, befL c (tgtL p r 0) = false) → ls.filter (ofR p r) = ls.takeWhile (ofR p r)
  | [], _, _ => rfl
  | c :: ls, hp, hn => by
    rw [List.pairwise_cons] at hp
    cases hm : ofR p r c with
    | true =>
      rw [List.filter_cons_of_pos hm, List.takeWhile_cons_of_pos hm, filter_take ls hp.2 fun x hx => hn x (List.mem_cons_of_mem _ hx)]
    | false =>
      rw [List.filter_cons_of_neg (by simp [hm]), List.takeWhile_cons_of_neg (by simp [hm]), List.filter_eq_nil_iff]
      intro x hx hxm
      have hb := hp.1 x hx
      have hc := hn c (List.mem_cons_self)
      obtain ⟨e1, e2⟩ := ofR_iff.1 hxm
      simp only [befL, Bool.or_eq_true, Bool.and_eq_true, beq_iff_eq, decide_eq_true_eq] at hb
      simp only [befL, tgtL, Bool.or_eq_false_iff, Bool.and_eq_false_iff, beq_eq_false_iff_ne] at hc
      rw [e1, e2] at hb
      rcases hb with hb | ⟨f1, hb | ⟨f2, _⟩⟩
      · rw [hc.1] at hb
        cases hb
      · have := hc.2.resolve_left (fun h => h f1)
        rw [this.1] at hb
        cases hb
      · rw [ofR_iff.2 ⟨f1, f2⟩] at hm
        cases hm
theorem filter_drop {p r : ByteArray} : ∀ (rs : List OLn), (∀ c ∈ rs, LnOk c) → rs.Pairwise (fun a b => befL a b = true) → rs.filter (ofR p r) = (rs.drop (plcL rs (tgtL p r 0))).takeWhile (ofR p r)
  | [], _, _ => by simp
  | c :: rs, hok, hp => by
    rw [List.pairwise_cons] at hp
    cases hb : befL c (tgtL p r 0) with
    | true =>
      have hm : ofR p r c = false := by
        cases e : ofR p r c with
        | false => rfl
        | true =>
          obtain ⟨e1, e2⟩ := ofR_iff.1 e
          have h1 := (hok c List.mem_cons_self).n1
          have h2 : befL c (tgtL p r 0) = decide (c.no < 0) := by simp [befL, tgtL, e1, e2, bl_irrefl]; exact decide_eq_decide.2 Iff.rfl
          rw [h2, decide_eq_true_eq] at hb
          omega
      have e : plcL (c :: rs) (tgtL p r 0) = plcL rs (tgtL p r 0) + 1 := by simp [plcL, hb]
      rw [e, List.drop_succ_cons, List.filter_cons_of_neg (by simp [hm])]
      exact filter_drop rs (fun x hx => hok x (List.mem_cons_of_mem _ hx)) hp.2
    | false =>
      have hn : ∀ x ∈ c :: rs, befL x (tgtL p r 0) = false := fun x hx => by
        rcases List.mem_cons.1 hx with rfl | hx
        · exact hb
        · cases e : befL x (tgtL p r 0) with
          | false => rfl
          | true =>
            have := befL_trans (hp.1 x hx) e
            rw [hb] at this
            cases this
      have e : plcL (c :: rs) (tgtL p r 0) = 0 := by
        rw [plcL, List.countP_eq_zero]
        intro x hx
        simp [hn x hx]
      rw [e, List.drop_zero]
      exact filter_take _ (List.pairwise_cons.2 hp) hn
/-- How far the lines go that begin at a place. -/
theorem take_len {α : Type} (m : α → Bool) : ∀ (l : List α) (k : Nat), (∀ j x, j < k → l[j]? = some x → m x = true) → k ≤ l.length → (∀ x, l[k]? = some x → m x = false) → l.takeWhile m = l.take k
  | [], k, _, hk, _ => by simp
  | x :: l, 0, _, _, hn => by simp [hn x rfl]
  | x :: l, k + 1, hy, hk, hn => by
    rw [List.takeWhile_cons_of_pos (hy 0 x (by omega) rfl), List.take_succ_cons, take_len m l k (fun j y hj hjy => hy (j + 1) y (by omega) (by simpa using hjy)) (by simpa using hk) (fun y hky => hn y (by simpa using hky))]
theorem stT_pos {c : OLn} (h : LnOk c) : 1 ≤ stT c ∧ stT c ≤ 5 := by rw [stT_yes h]; exact stR_ran c
end Go.Proofs.Ytppfobeencnbdaa
