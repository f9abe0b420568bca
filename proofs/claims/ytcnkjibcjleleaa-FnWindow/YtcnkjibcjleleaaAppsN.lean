/- An append of a whole list of numbers. -/
import Derived.Test.YtcnkjibcjleleaaRowN
namespace Go.Proofs.Ytcnkjibcjleleaa
open Go.ChangeShapes Go.WideShapes Go.ChangeAt Go.RowKit
theorem wpList_appsN {ops : Array Oper} {rest : List Oper} {o : Oper} {a : Act} {Q : Exit → Act → World → Prop} {W : World} {base C : Nat} {lv : Value} {ad : Addr} {zs ms : List Int} (hgd : o.guard = none) (s x : Operand)
    (ho : o.op = .call { callee := .builtin .append, args := #[s, x], argTypes := #[23, 23] })
    (hs' : a.eval s = lv) (hx : a.eval x = .slice (some ad) ms.length C) (h : W.ownsRow base 2 1 lv zs.length (zs.map (Value.int .i64))) (hg : RowN W (.slice (some ad) ms.length C) ms) (hl : zs.length + ms.length ≤ 1000000) (hbase : base ≤ W.heap.size)
    (k : ∀ v' w', w'.ownsRow base 2 1 v' (zs ++ ms).length ((zs ++ ms).map (Value.int .i64)) → W.grownBy w' lv.ownBlock → wpList Try.prog ops Q rest (a.put o.dst v') w') : wpList Try.prog ops Q (o :: rest) a W := by
  obtain ⟨i0, hi, hz0, hz1, hz2⟩ := info_parts infoN
  refine wpList_append_own W hgd s x 23 ho base 2 i0 (.int .i64 0) 1 8 Try.underlying23 hi hz0 hz1 hz2 rfl (by decide) lv zs.length (zs.map (Value.int .i64)) hs' h ad ms.length C (ms.map (Value.int .i64)) hx (by simp) (fun j u hu => ?_) (fun u hu => ?_) (by unfold maxLen; omega) (by omega) hbase ?_
  · rw [List.getElem?_map] at hu
    obtain ⟨g, hg', rfl⟩ := Option.map_eq_some_iff.1 hu
    obtain ⟨a', cap, e, hc⟩ := hg.shape
    simp only [Value.slice.injEq] at e
    obtain ⟨b, o', ea, hcell⟩ := hc (by intro e2; rw [e2] at hg'; simp at hg')
    rw [← e.1] at ea
    cases ea
    rw [fl_addr]
    exact hcell j g hg'
  · obtain ⟨z, _, rfl⟩ := List.mem_map.1 hu
    rfl
  · intro v' w' hown hgrow hnil
    refine k v' w' ?_ hgrow
    rw [List.map_append, List.length_append]
    exact hown
end Go.Proofs.Ytcnkjibcjleleaa
