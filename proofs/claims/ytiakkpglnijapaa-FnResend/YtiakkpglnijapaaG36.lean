/- Texts of ours put together: RsP. -/
import Derived.Test.YtiakkpglnijapaaG30
namespace Go.Proofs.Ytiakkpglnijapaa
open Go.ChangeShapes Go.WideShapes Go.ChangeAt Go.RowKit
theorem runD_mem : ∀ (ds : List Int) (o : OutR) (x : Int), x ∈ runD o ds → x ∈ ds
  | [], _, _, h => by simp [runD] at h
  | d :: r, o, x, h => by
    unfold runD at h
    split at h
    · rcases List.mem_cons.1 h with rfl | h
      · exact List.mem_cons_self
      · exact List.mem_cons_of_mem _ (runD_mem r _ x h)
    · exact List.mem_cons_of_mem _ (runD_mem r _ x h)
theorem runD_five : ∀ (ds : List Int) (o : OutR), o.tries ≤ 5 → ((runD o ds).length : Int) ≤ 5 - o.tries
  | [], o, h => by simp [runD]; omega
  | d :: r, o, h => by
    unfold runD
    split
    · rename_i hs
      simp only [sntB, Bool.and_eq_true, decide_eq_true_eq] at hs
      have e1 : (trdO d o).tries = o.tries + 1 := rfl
      have := runD_five r (trdO d o) (by rw [e1]; omega)
      rw [e1] at this
      rw [List.length_cons]
      omega
    · exact runD_five r o h
theorem runD_wait : ∀ (ds : List Int) (o : OutR), (∀ d ∈ ds, d ≤ 90000) → 0 ≤ o.tries → ∀ (i : Nat) (x : Int), (runD o ds)[i]? = some x → o.due ≤ x ∧ ∀ y, 0 < i → (runD o ds)[i - 1]? = some y → 3 * (o.tries + (i : Int)) ≤ x - y
  | [], o, _, _, i, x, h => by simp [runD] at h
  | d :: r, o, hb, ht, i, x, h => by
    have hbr : ∀ d ∈ r, d ≤ 90000 := fun d hd => hb d (List.mem_cons_of_mem _ hd)
    unfold runD at h ⊢
    split
    · rename_i hs
      rw [if_pos hs] at h
      simp only [sntB, Bool.and_eq_true, decide_eq_true_eq] at hs
      match i, h with
      | 0, h =>
        have e : d = x := by simpa using h
        exact ⟨by omega, fun y h0 => by omega⟩
      | i + 1, h =>
        have h' : (runD (trdO d o) r)[i]? = some x := by simpa using h
        have hx := hbr x (runD_mem r _ x (List.mem_of_getElem? h'))
        have e1 : (trdO d o).tries = o.tries + 1 := rfl
        have e2 : (trdO d o).due = min (d + 3 * (o.tries + 1)) 100000 := rfl
        obtain ⟨h1, h2⟩ := runD_wait r (trdO d o) hbr (by rw [e1]; omega) i x h'
        rw [e2] at h1
        rw [e1] at h2
        refine ⟨by omega, fun y _ hy => ?_⟩
        match i, hy, h2 with
        | 0, hy, _ =>
          have e : d = y := by simpa using hy
          have : ((0 + 1 : Nat) : Int) = 1 := rfl
          omega
        | i + 1, hy, h2 =>
          have h3 := h2 y (by omega) (by simpa using hy)
          have e : ((i + 1 + 1 : Nat) : Int) = ((i + 1 : Nat) : Int) + 1 := by omega
          rw [e]
          omega
    · rename_i hs
      rw [if_neg hs] at h
      exact runD_wait r o hbr ht i x h
/-- What FnResend asks of the days on which a thing is sent. -/
structure RunLaw (o : OutR) (xs : List Int) : Prop where
  len : xs.length ≤ 5
  due : ∀ (i : Nat) (x : Int), xs[i]? = some x → o.due ≤ x
  wait : ∀ (i : Nat) (x y : Int), xs[i + 1]? = some x → xs[i]? = some y → 3 * (o.tries + ((i : Int) + 1)) ≤ x - y
  bd : ∀ (i : Nat) (x : Int), xs[i]? = some x → 0 ≤ x ∧ x ≤ 90000 ∧ 0 ≤ o.tries ∧ o.tries ≤ 5 ∧ 0 ≤ o.due ∧ o.due ≤ 100000
theorem runLaw {o : OutR} {ds : List Int} (hb : ∀ d ∈ ds, 0 ≤ d ∧ d ≤ 90000) : RunLaw o (runO o ds) := by
  by_cases h : RunOk o ds
  · rw [runO_yes h]
    have h0 := h.ok.r0
    have h5 := h.ok.r5
    have hd := h.ok.d
    have hw := runD_wait ds o (fun d hd => (hb d hd).2) h0
    refine ⟨by have := runD_five ds o h5; omega, fun i x hx => (hw i x hx).1, fun i x y hx hy => ?_, fun i x hx => ?_⟩
    · have := (hw (i + 1) x hx).2 y (by omega) (by simpa using hy)
      have e : ((i + 1 : Nat) : Int) = (i : Int) + 1 := by omega
      rw [e] at this
      exact this
    · have := hb x (runD_mem ds o x (List.mem_of_getElem? hx))
      omega
  · rw [runO_no h]
    exact ⟨by simp, fun i x hx => by simp at hx, fun i x y hx => by simp at hx, fun i x hx => by simp at hx⟩
/-- What it asks of a tick. -/
structure TckLaw (d : Int) (rs : List OutR) (p : OOu) : Prop where
  code : p.code = 0
  len : p.list.length + p.lost.length = rs.length
  lost : ∀ (i : Nat) (g : OutR), p.lost[i]? = some g → g.tries = 5 ∧ g.due ≤ d
  right : ousB p.list = true
theorem filt_len {α : Type} (p : α → Bool) : ∀ l : List α, (l.filter fun o => !p o).length + (l.filter p).length = l.length
  | [] => rfl
  | a :: r => by
    have := filt_len p r
    cases h : p a <;> simp [h] <;> omega
theorem aft_key (d : Int) (o : OutR) : keyO (aftO d o) = keyO o := by
  unfold aftO
  split <;> rfl
theorem aft_ok {d : Int} {o : OutR} (h : OuOk o) (hd : dayB d = true) : OuOk (aftO d o) := by
  unfold aftO
  split
  · rename_i hs
    have hd' := dayB_iff.1 hd
    simp only [sntB, Bool.and_eq_true, decide_eq_true_eq] at hs
    obtain ⟨p, n, t1, t2, r0, r5, dd⟩ := h
    refine ⟨p, n, t1, t2, ?_, ?_, ?_⟩ <;> simp only [trdO] <;> omega
  · exact h
theorem tckLaw {rs : List OutR} {d : Int} (h : (tckO rs d).code = 0) : TckLaw d rs (tckO rs d) := by
  by_cases hl : 400 < rs.length
  · rw [tckO_big hl] at h
    exact absurd h (by decide)
  by_cases hr : RightO rs ∧ dayB d = true
  · rw [tckO_yes hr.1 hr.2]
    refine ⟨rfl, ?_, fun i g hg => ?_, ?_⟩
    · show (tLi d rs).length + (tLo d rs).length = rs.length
      unfold tLi tLo kepL
      rw [List.length_map]
      exact filt_len (lstB d) rs
    · have hm : g ∈ tLo d rs := List.mem_of_getElem? hg
      have := (List.mem_filter.1 hm).2
      simp only [lstB, Bool.and_eq_true, decide_eq_true_eq] at this
      omega
    · apply ousB_yes
      have hlen := hr.1.len
      refine RightO.of_pair ?_ ?_ ?_
      · show (tLi d rs).length ≤ 60
        unfold tLi kepL
        rw [List.length_map]
        have := List.length_filter_le (fun o => !lstB d o) rs
        omega
      · intro c hc
        obtain ⟨x, hx, rfl⟩ := List.mem_map.1 (show c ∈ (kepL d rs).map (aftO d) from hc)
        exact aft_ok (hr.1.ok x (List.mem_filter.1 hx).1) hr.2
      · show ((kepL d rs).map (aftO d)).Pairwise fun a b => befO a b = true
        rw [List.pairwise_map]
        refine (hr.1.pair.sublist List.filter_sublist).imp fun hab => ?_
        rw [befO_congr (aft_key d _) (aft_key d _)]
        exact hab
  · rw [tckO_form hl hr] at h
    exact absurd h (by decide)
end Go.Proofs.Ytiakkpglnijapaa
