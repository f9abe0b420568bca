/- Texts of ours put together: IsO, LtP. -/
import Derived.Test.YtamlhbjcokkmeaaGreatDoorG23
import Derived.Test.YtamlhbjcokkmeaaGreatDoorG15
import Derived.Test.YtamlhbjcokkmeaaGreatDoorG18
import Derived.Test.YtamlhbjcokkmeaaGreatDoorG22
namespace Go.Proofs.YtamlhbjcokkmeaaGreatDoor
open Go.ChangeShapes Go.WideShapes Go.ChangeAt Go.RowKit
/-- Is it a line of that Partner (of the empty text: of any)? -/
def isB (q : ByteArray) (l : OLn) : Bool := q.toList.isEmpty || (l.partner.toList == q.toList)
theorem ofB_isB (q i : ByteArray) (l : OLn) : ofB q i l = ((l.item.toList == i.toList) && isB q l) := rfl
set_option maxHeartbeats 4000000 in
theorem isOf_any (l : OLn) (q : ByteArray) (w : World) : Calls Tryz.prog 76 #[.agg #[.string l.partner, .string l.ref, .int .i64 l.no, .string l.item, .int .i64 l.ordered, .int .i64 l.sent, .int .i64 l.got, .int .i64 l.cut], .string q] w fun e w' => e = .returned (.bool (isB q l)) ∧ Below w.heap.size w w' := by
  obtain ⟨W0, hW0⟩ : ∃ W0, w.alloc (.cells #[.string l.partner, .string l.ref, .int .i64 l.no, .string l.item, .int .i64 l.ordered, .int .i64 l.sent, .int .i64 l.got, .int .i64 l.cut] 107) = W0 := ⟨_, rfl⟩
  have hb0 : Below w.heap.size w W0 := by rw [← hW0]; exact (Below.refl _ _).alloc (Nat.le_refl _) _
  have hbx : W0.heap[w.heap.size]? = some (.cells #[.string l.partner, .string l.ref, .int .i64 l.no, .string l.item, .int .i64 l.ordered, .int .i64 l.sent, .int .i64 l.got, .int .i64 l.cut] 107) := by rw [← hW0]; exact World.alloc_heap_new _ _
  have H0 : Hid (Below w.heap.size w W0) := hb0
  obtain ⟨c0, c1, c2, c3, c4, c5, c6, c7⟩ := box8 hbx
  clear hb0 hbx
  go_enter Tryz.func76, Tryz.ntmps76
  go_upto_region 1 with fail
  try rw [hW0]
  clear hW0
  cases e2 : q.toList.isEmpty with
  | true =>
    have HI : Hid (isB q l = true) := by show _ = _; simp [isB, e2]
    go_wp2
    go_ret
    exact ⟨by rw [HI.out]; rfl, H0.out⟩
  | false =>
    cases e3 : (l.partner.toList == q.toList) with
    | true =>
      have HI : Hid (isB q l = true) := by show _ = _; simp [isB, e2, e3]
      go_wp2
      go_ret
      exact ⟨by rw [HI.out]; rfl, H0.out⟩
    | false =>
      have HI : Hid (isB q l = false) := by show _ = _; simp [isB, e2, e3]
      go_wp2
      go_ret
      exact ⟨by rw [HI.out]; rfl, H0.out⟩
end Go.Proofs.YtamlhbjcokkmeaaGreatDoor
namespace Go.Proofs.YtamlhbjcokkmeaaGreatDoor
open Go.ChangeShapes Go.WideShapes Go.ChangeAt Go.RowKit
/-- The words of a row of an order line. -/
def lnW (l : OLn) : List ByteArray := [l.partner, l.ref, decS l.no, l.item, (⟨#[111, 114, 100, 101, 114, 101, 100]⟩ : ByteArray), decS l.ordered, (⟨#[115, 101, 110, 116]⟩ : ByteArray), decS l.sent, (⟨#[103, 111, 116]⟩ : ByteArray), decS l.got, (⟨#[99, 117, 116]⟩ : ByteArray), decS l.cut]
theorem lnW_len (l : OLn) : (lnW l).length = 12 := rfl
/-- Does a line go on? -/
noncomputable def goB (q : ByteArray) (l : OLn) : Bool := isB q l && !((opnT l == 0) && (trnT l == 0))
noncomputable def lnK (q : ByteArray) (rs : List OLn) (k : Nat) : List OLn := (rs.take k).filter (goB q)
theorem lnK_no {q : ByteArray} {rs : List OLn} {k : Nat} {l : OLn} (h : rs[k]? = some l) (e : goB q l = false) : lnK q rs (k + 1) = lnK q rs k := by
  unfold lnK
  rw [List.take_add_one, h, List.filter_append]
  simp [e]
theorem lnK_yes {q : ByteArray} {rs : List OLn} {k : Nat} {l : OLn} (h : rs[k]? = some l) (e : goB q l = true) : lnK q rs (k + 1) = lnK q rs k ++ [l] := by
  unfold lnK
  rw [List.take_add_one, h, List.filter_append]
  simp [e]
theorem lnK_all (q : ByteArray) (rs : List OLn) : lnK q rs rs.length = rs.filter (goB q) := by
  unfold lnK
  rw [List.take_length]
theorem lnK_len (q : ByteArray) (rs : List OLn) (k : Nat) : (lnK q rs k).length ≤ k := by
  unfold lnK
  refine Nat.le_trans (List.length_filter_le _ _) ?_
  rw [List.length_take]
  omega
theorem lnK_mem {q : ByteArray} {rs : List OLn} {k : Nat} {l : OLn} (h : l ∈ lnK q rs k) : l ∈ rs := List.mem_of_mem_take (List.mem_filter.1 h).1
theorem lnW_flat (rs : List OLn) : (rs.map lnW).flatten.length = 12 * rs.length := by
  induction rs with
  | nil => rfl
  | cons a r ih => simp only [List.map_cons, List.flatten_cons, List.length_append, lnW_len, ih, List.length_cons]; omega
/-- What LinesText tells. -/
noncomputable def lnsT (p : Bk) (q : ByteArray) : ByteArray := if 20000 < q.size then ⟨#[]⟩ else if bkB p = true then txB ((p.lines.filter (goB q)).map lnW) else ⟨#[]⟩
theorem lnsT_long {p : Bk} {q : ByteArray} (h : 20000 < q.size) : lnsT p q = ⟨#[]⟩ := by simp [lnsT, h]
theorem lnsT_no {p : Bk} {q : ByteArray} (h : ¬ 20000 < q.size) (h2 : bkB p = false) : lnsT p q = ⟨#[]⟩ := by simp [lnsT, h, h2]
theorem lnsT_yes {p : Bk} {q : ByteArray} (h : ¬ 20000 < q.size) (h2 : bkB p = true) : lnsT p q = txB ((p.lines.filter (goB q)).map lnW) := by simp [lnsT, h, h2]
theorem ln_app (t : ByteArray) (l : OLn) : ((((((((((((((((t ++ l.partner) ++ (⟨#[32]⟩ : ByteArray)) ++ l.ref) ++ (⟨#[32]⟩ : ByteArray)) ++ decS l.no) ++ (⟨#[32]⟩ : ByteArray)) ++ l.item) ++ (⟨#[32, 111, 114, 100, 101, 114, 101, 100, 32]⟩ : ByteArray)) ++ decS l.ordered) ++ (⟨#[32, 115, 101, 110, 116, 32]⟩ : ByteArray)) ++ decS l.sent) ++ (⟨#[32, 103, 111, 116, 32]⟩ : ByteArray)) ++ decS l.got) ++ (⟨#[32, 99, 117, 116, 32]⟩ : ByteArray)) ++ decS l.cut) ++ (⟨#[10]⟩ : ByteArray)) = t ++ ⟨(rowL (lnW l)).toArray⟩ := by
  unfold rowL lnW
  apply ByteArray.ext
  apply Array.toList_inj.1
  simp [Lib.join_cons, Lib.joinTail, ByteArray.data_append, List.append_assoc]
structure LnZ (l : OLn) : Prop where
  n : i64B l.no
  o : i64B l.ordered
  s : i64B l.sent
  g : i64B l.got
  c : i64B l.cut
  p : l.partner.size ≤ 12
  r : l.ref.size ≤ 12
  i : l.item.size ≤ 12
theorem lnZ {l : OLn} (h : LnOk l) : LnZ l := by
  obtain ⟨p, r, i, n1, n2, o1, o2, s0, g0, c0, gs, so, co⟩ := h
  have h1 := (nameB_sizes p).2
  have h2 := (nameB_sizes r).2
  have h3 := (nameB_sizes i).2
  refine ⟨?_, ?_, ?_, ?_, ?_, h1, h2, h3⟩ <;> (unfold i64B; omega)
theorem lnRow_len {l : OLn} (h : LnZ l) : (rowL (lnW l)).length ≤ 300 := by
  have z1 := (decS_long l.no h.n.1 h.n.2).2
  have z2 := (decS_long l.ordered h.o.1 h.o.2).2
  have z3 := (decS_long l.sent h.s.1 h.s.2).2
  have z4 := (decS_long l.got h.g.1 h.g.2).2
  have z5 := (decS_long l.cut h.c.1 h.c.2).2
  have z6 := h.p
  have z7 := h.r
  have z8 := h.i
  have e : ∀ s : ByteArray, s.data.toList.length = s.size := fun s => rfl
  unfold rowL lnW
  simp only [List.map_cons, List.map_nil, Lib.join_cons, Lib.joinTail, List.flatten_cons, List.flatten_nil, List.length_append, List.length_cons, List.length_nil, e]
  omega
theorem lns_len {rs : List OLn} (h : ∀ l ∈ rs, LnZ l) : (txR (rs.map lnW)).length ≤ 300 * rs.length := by
  induction rs with
  | nil => simp [txR]
  | cons a r ih =>
    have h1 := ih fun l hl => h l (List.mem_cons_of_mem _ hl)
    have h2 := lnRow_len (h a List.mem_cons_self)
    simp only [List.map_cons, txR, List.flatten_cons, List.length_append, List.length_cons] at *
    omega
end Go.Proofs.YtamlhbjcokkmeaaGreatDoor
