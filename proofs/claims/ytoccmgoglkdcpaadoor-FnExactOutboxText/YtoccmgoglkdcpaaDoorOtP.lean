/- What OutboxText tells: pure. -/
import Derived.Test.YtoccmgoglkdcpaaDoorRpT
import Derived.Test.YtoccmgoglkdcpaaDoorDtI
import Derived.Test.YtoccmgoglkdcpaaDoorOuP
import Derived.Test.YtoccmgoglkdcpaaDoorCtlB
namespace Go.Proofs.YtoccmgoglkdcpaaDoor
open Go.ChangeShapes Go.WideShapes Go.ChangeAt Go.RowKit
/-- The words of a thing in an outbox. -/
def outW (l : OutR) : List ByteArray := [l.partner, decS l.number, decS l.tries, decS l.due]
theorem outW_len (l : OutR) : (outW l).length = 4 := rfl
theorem outW_flat (rs : List OutR) : (rs.map outW).flatten.length = 4 * rs.length := by
  induction rs with
  | nil => rfl
  | cons a r ih => simp only [List.map_cons, List.flatten_cons, List.length_append, outW_len, ih, List.length_cons]; omega
/-- The text of these rows. -/
def txB (rows : List (List ByteArray)) : ByteArray := ⟨(txR rows).toArray⟩
theorem txB_size (rows : List (List ByteArray)) : (txB rows).size = (txR rows).length := by simp [txB, ByteArray.size]
noncomputable def outT (rs : List OutR) : ByteArray := if ousB rs = true then txB (rs.map outW) else ⟨#[]⟩
theorem outT_no {rs : List OutR} (h : ousB rs = false) : outT rs = ⟨#[]⟩ := by simp [outT, h]
theorem outT_yes {rs : List OutR} (h : ousB rs = true) : outT rs = txB (rs.map outW) := by simp [outT, h]
theorem out_app (t : ByteArray) (l : OutR) : ((((((((t ++ l.partner) ++ (⟨#[32]⟩ : ByteArray)) ++ decS l.number) ++ (⟨#[32]⟩ : ByteArray)) ++ decS l.tries) ++ (⟨#[32]⟩ : ByteArray)) ++ decS l.due) ++ (⟨#[10]⟩ : ByteArray)) = t ++ ⟨(rowL (outW l)).toArray⟩ := by
  unfold rowL outW
  apply ByteArray.ext
  apply Array.toList_inj.1
  simp [Lib.join_cons, Lib.joinTail, ByteArray.data_append, List.append_assoc]
theorem txB_next {rows : List (List ByteArray)} {k : Nat} {r : List ByteArray} (h : rows[k]? = some r) : txB (rows.take (k + 1)) = txB (rows.take k) ++ ⟨(rowL r).toArray⟩ := by
  unfold txB
  rw [txR_next h]
  apply ByteArray.ext
  apply Array.toList_inj.1
  simp [ByteArray.data_append]
structure OuZ (l : OutR) : Prop where
  n : i64B l.number
  t : i64B l.tries
  d : i64B l.due
  p : l.partner.size ≤ 40
theorem ouZ {l : OutR} (h : OuOk l) : OuZ l := by
  have h1 := ctlB_iff.1 h.n
  have h2 := h.r0
  have h3 := h.r5
  have h4 := h.d
  have h5 := (nameB_sizesU h.p).2
  exact ⟨by unfold i64B; omega, by unfold i64B; omega, by unfold i64B; omega, by omega⟩
theorem outRow_len {l : OutR} (h : OuZ l) : (rowL (outW l)).length ≤ 200 := by
  have z1 := (decS_long l.number h.n.1 h.n.2).2
  have z2 := (decS_long l.tries h.t.1 h.t.2).2
  have z3 := (decS_long l.due h.d.1 h.d.2).2
  have z4 := h.p
  have e : ∀ s : ByteArray, s.data.toList.length = s.size := fun s => rfl
  unfold rowL outW
  simp only [List.map_cons, List.map_nil, Lib.join_cons, Lib.joinTail, List.flatten_cons, List.flatten_nil, List.length_append, List.length_cons, List.length_nil, e]
  omega
theorem outs_len {rs : List OutR} (h : ∀ l ∈ rs, OuZ l) : (txR (rs.map outW)).length ≤ 200 * rs.length := by
  induction rs with
  | nil => simp [txR]
  | cons a r ih =>
    have h1 := ih fun l hl => h l (List.mem_cons_of_mem _ hl)
    have h2 := outRow_len (h a List.mem_cons_self)
    simp only [List.map_cons, txR, List.flatten_cons, List.length_append, List.length_cons] at *
    omega
end Go.Proofs.YtoccmgoglkdcpaaDoor
