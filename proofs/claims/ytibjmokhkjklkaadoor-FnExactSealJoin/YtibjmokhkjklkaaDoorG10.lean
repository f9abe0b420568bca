/- Texts of ours put together: RpD. -/
import Derived.Test.YtibjmokhkjklkaaDoorG09
import Derived.OneCell
namespace Go.Proofs.YtibjmokhkjklkaaDoor
open Go.ChangeShapes Go.WideShapes Go.ChangeAt Go.RowKit
theorem own1_below {W W' : World} {base e : Nat} {v : Value} {k : Nat} {xs : List Value} (h : W.ownsRow base e 1 v k xs) (hb : Below W.heap.size W W') : W'.ownsRow base e 1 v k xs := by
  refine h.kept (row := none) ⟨hb.os, hb.tape, hb.output, hb.size, fun j hj _ => hb.block j hj⟩ ?_
  rcases h.2 with ⟨e, _⟩ | ⟨g, cap, cur, e, _⟩
  · exact .inl (by rw [e]; rfl)
  · exact .inr (by rw [e]; simp [Value.ownBlock])
theorem rp_apart {B e K n b t : Nat} {W : World} {v : Value} {xs : List Value} {cs : Array Value} (h : W.ownsRow B e K v n xs) (hb : W.heap[b]? = some (.cells cs t)) (hne : e ≠ t) : v.ownBlock ≠ some b := fun hv => by
  rcases h.2 with ⟨rfl, _⟩ | ⟨g, cap, cur, rfl, _, h2, _⟩
  · cases hv
  · simp only [Value.ownBlock, Option.some.injEq] at hv
    subst hv
    have := h2.symm.trans hb
    simp only [Option.some.injEq, Obj.cells.injEq] at this
    exact hne this.2.1
/-- An append of a list of texts, at the list of a plain region's operations. -/
theorem wpList_appsTx {ops : Array Oper} {rest : List Oper} {o : Oper} {a : Act} {Q : Exit → Act → World → Prop} {W : World} {base c C : Nat} {lv : Value} {ss cs : List ByteArray} (hgd : o.guard = none) (s x : Operand)
    (ho : o.op = .call { callee := .builtin .append, args := #[s, x], argTypes := #[91, 91] })
    (hs' : a.eval s = lv) (hx : a.eval x = .slice (some ⟨c, 0, none⟩) cs.length C) (h : W.ownsRow base 9 1 lv ss.length (ss.map Value.string)) (hg : ∀ j t, cs[j]? = some t → W.cell? ⟨c, j, none⟩ = some (.string t)) (hc : 0 < cs.length) (hl : ss.length + cs.length ≤ 2000000) (hbase : base ≤ W.heap.size)
    (k : ∀ v' w', w'.ownsRow base 9 1 v' (ss ++ cs).length ((ss ++ cs).map Value.string) → W.grownBy w' lv.ownBlock → (∃ A C, v' = .slice A (ss ++ cs).length C) → wpList Tryd.prog ops Q rest (a.put o.dst v') w') : wpList Tryd.prog ops Q (o :: rest) a W := by
  obtain ⟨i0, hi, hz0, hz1, hz2⟩ := info_parts infoTx
  refine wpList_append_own W hgd s x 91 ho base 9 i0 (.string ⟨#[]⟩) 1 16 Tryd.underlying91 hi hz0 hz1 hz2 rfl (by decide) lv ss.length (ss.map Value.string) hs' h ⟨c, 0, none⟩ cs.length C (cs.map Value.string) hx (by simp) (fun j u hu => ?_) (fun u hu => ?_) (by unfold maxLen; omega) (by omega) hbase ?_
  · rw [List.getElem?_map] at hu
    obtain ⟨g, hg', rfl⟩ := Option.map_eq_some_iff.1 hu
    rw [fl_addr]
    have := hg j g hg'
    simpa using this
  · obtain ⟨z, _, rfl⟩ := List.mem_map.1 hu
    rfl
  · intro v' w' hown hgrow hnil
    have hown' : w'.ownsRow base 9 1 v' (ss ++ cs).length ((ss ++ cs).map Value.string) := by
      rw [List.map_append, List.length_append]
      exact hown
    refine k v' w' hown' hgrow ?_
    rcases hown'.2 with ⟨rfl, h0⟩ | ⟨b, cap, cur, rfl, _⟩
    · rw [List.length_append] at h0
      omega
    · exact ⟨_, _, rfl⟩

theorem own_at1 {W : World} {n₀ n t : Nat} {v : Value} {xs : List Value} (h : W.ownsRow n₀ t 1 v n xs) (hn : 0 < n) : ∃ g C, v = .slice (some ⟨g, 0, none⟩) n C ∧ n₀ ≤ g ∧ g < W.heap.size ∧ n ≤ C ∧ C ≤ 9223372036854775807 ∧ ∀ i x, xs[i]? = some x → W.cell? ⟨g, i, none⟩ = some x := by
  rcases h.2 with ⟨_, h0⟩ | ⟨g, cap, cur, rfl, hg, hh, h1, h2, _⟩
  · omega
  · refine ⟨g, cap, rfl, hg, (Array.getElem?_eq_some_iff.1 hh).1, h1, by unfold maxLen at h2; omega, fun i x hi => ?_⟩
    have h1 := h.cells (g := g) rfl i x hi
    rw [fl_addr] at h1
    simpa using h1
end Go.Proofs.YtibjmokhkjklkaaDoor
