/- A cross taken out of a map. -/
import Derived.Test.YtfdfanleigcfpaaPutP
namespace Go.Proofs.Ytfdfanleigcfpaa
open Go.ChangeShapes Go.WideShapes Go.ChangeAt Go.RowKit
open Go.MapKept
open Go.ChangeMaps (setBlock heap_setBlock_same heap_setBlock_other)
theorem erase_off : ∀ {l : List Crs} {j : Nat} {d : Crs}, (l.Pairwise fun a b => thK a ≠ thK b) → l[j]? = some d → l.eraseIdx j = offK (thK d) l
  | [], j, d, _, h => by simp at h
  | x :: r, 0, d, hp, h => by
    obtain ⟨h1, _⟩ := List.pairwise_cons.1 hp
    have hx : x = d := by simpa using h
    subst hx
    have : r.filter (fun y => decide (thK y ≠ thK x)) = r := List.filter_eq_self.2 fun y hy => by simpa using Ne.symm (h1 y hy)
    show r = (x :: r).filter (fun y => decide (thK y ≠ thK x))
    rw [List.filter_cons_of_neg (by simp), this]
  | x :: r, j + 1, d, hp, h => by
    obtain ⟨h1, h2⟩ := List.pairwise_cons.1 hp
    have hd : r[j]? = some d := by simpa using h
    have hx : thK x ≠ thK d := h1 d (List.mem_of_getElem? hd)
    rw [List.eraseIdx_cons_succ, erase_off h2 hd]
    simp [offK, hx]
theorem MC.del {w : World} {b : Nat} {l : List Crs} (h : MC w b thK l) {k : ByteArray × ByteArray} (hk : KS k) (ty : TypeId) :
    ∃ w', (Builtin.delete_ #[43, 53] ty #[.map (some b), kv k]).run Try.prog w = .ok (.tuple #[]) w' ∧ MC w' b thK (offK k l) ∧ w.grownBy w' (some b) := by
  obtain ⟨es, clock, hb, he, hS⟩ := h.ex
  obtain ⟨kl, hkl⟩ := key_of hk
  have hsz : ∀ x ∈ offK k l, KS (thK x) := fun x hx => h.sizes x ((offK_sub _ _).subset hx)
  rcases keyC.find w hkl es.toList (es_keys he h.sizes) with ⟨h1, h2⟩ | ⟨j, e0, h1, h2, h3⟩
  · refine ⟨setBlock w b (.map es clock), ?_, ⟨⟨es, clock, heap_setBlock_same hb _, ?_, hS⟩, hsz⟩, ⟨rfl, rfl, rfl, by simp [setBlock], fun i _ hi => heap_setBlock_other hb _ (fun e => hi (by rw [e]))⟩⟩
    · simp [Builtin.delete_, run_underlying Try.underlying43, MapKept.run_getObj_map hb, keyC.check w _ hkl, h1, MapKept.run_setObj_map _ hb, Result.andThen, setBlock]
    · have : offK k l = l := List.filter_eq_self.2 fun x hx => by simpa using es_none he h2 x hx
      rw [this]
      exact he
  · obtain ⟨d, hd, e1, _⟩ := es_get he h2
    have hdk : thK d = k := kv_inj (e1.symm.trans h3)
    have hjs : j < es.size := by have := (List.getElem?_eq_some_iff.1 h2).1; simpa using this
    have hsub : (es.eraseIdxIfInBounds j).toList = es.toList.eraseIdx j := by
      unfold Array.eraseIdxIfInBounds
      rw [dif_pos hjs]
      simp
    have hpw : l.Pairwise fun a b => thK a ≠ thK b := by
      have hn := ((stamped_iff es clock).1 hS).2.2
      have q1 : (es.toList.map (fun e => (e.key, e.val))).Pairwise (fun a b => a.1 ≠ b.1) := by
        rw [List.pairwise_map]
        exact hn
      rw [he, List.pairwise_map] at q1
      exact q1.imp fun hne e => hne (by rw [e])
    refine ⟨setBlock w b (.map (es.eraseIdxIfInBounds j) clock), ?_, ⟨⟨_, clock, heap_setBlock_same hb _, ?_, stamped_erase hS j⟩, hsz⟩, ⟨rfl, rfl, rfl, by simp [setBlock], fun i _ hi => heap_setBlock_other hb _ (fun e => hi (by rw [e]))⟩⟩
    · simp [Builtin.delete_, run_underlying Try.underlying43, MapKept.run_getObj_map hb, keyC.check w _ hkl, h1, MapKept.run_setObj_map _ hb, Result.andThen, setBlock]
    · rw [hsub, Go.ChangeMaps.map_eraseIdx, he, ← Go.ChangeMaps.map_eraseIdx, erase_off hpw hd, hdk]
/-- delete(m, k), at the list of a plain region's operations. -/
theorem wpList_del {ops : Array Oper} {rest : List Oper} {o : Oper} {a : Act} {Q : Exit → Act → World → Prop} {w w' : World} {b : Nat} {key : Value} (hg : o.guard = none) (m x : Operand) (t k : TypeId)
    (hop : o.op = Op.call { callee := Callee.builtin Builtin.delete, args := #[m, x], argTypes := #[t, k] }) (hm : a.eval m = .map (some b)) (hx : a.eval x = key)
    (hrun : (Builtin.delete_ #[t, k] o.type #[.map (some b), key]).run Try.prog w = .ok (.tuple #[]) w') (hK : wpList Try.prog ops Q rest (a.put o.dst (.tuple #[])) w') : wpList Try.prog ops Q (o :: rest) a w := by
  refine wpList_plain hg fun K' hK' => ?_
  unfold Oper.wp
  simp [execOp, hop, resolve, invoke, builtin, hm, hx, hrun, Result.andThen]
  exact hK' _ _ hK
end Go.Proofs.Ytfdfanleigcfpaa
