/- Texts of ours put together: OtP, GttP. -/
import Derived.Test.YtamlhbjcokkmeaaGreatDoorG18
import Derived.Test.YtamlhbjcokkmeaaGreatDoorG22
import Derived.Test.YtamlhbjcokkmeaaGreatDoorG15
import Derived.Test.YtamlhbjcokkmeaaGreatDoorG14
import Derived.Test.YtamlhbjcokkmeaaGreatDoorG16
import Derived.Test.YtamlhbjcokkmeaaGreatDoorG23
import Derived.Test.YtamlhbjcokkmeaaGreatDoorG24
import Derived.Test.YtamlhbjcokkmeaaGreatDoorG25
namespace Go.Proofs.YtamlhbjcokkmeaaGreatDoor
open Go.ChangeShapes Go.WideShapes Go.ChangeAt Go.RowKit
/-- The words of a thing in an outbox. -/
def outW (l : OutR) : List ByteArray := [l.partner, decS l.number, decS l.tries, decS l.due]
theorem outW_len (l : OutR) : (outW l).length = 4 := rfl
theorem outW_flat (rs : List OutR) : (rs.map outW).flatten.length = 4 * rs.length := by
  induction rs with
  | nil => rfl
  | cons a r ih => simp only [List.map_cons, List.flatten_cons, List.length_append, outW_len, ih, List.length_cons]; omega
noncomputable def outT (rs : List OutR) : ByteArray := if ousB rs = true then txB (rs.map outW) else ⟨#[]⟩
theorem outT_no {rs : List OutR} (h : ousB rs = false) : outT rs = ⟨#[]⟩ := by simp [outT, h]
theorem outT_yes {rs : List OutR} (h : ousB rs = true) : outT rs = txB (rs.map outW) := by simp [outT, h]
theorem out_app (t : ByteArray) (l : OutR) : ((((((((t ++ l.partner) ++ (⟨#[32]⟩ : ByteArray)) ++ decS l.number) ++ (⟨#[32]⟩ : ByteArray)) ++ decS l.tries) ++ (⟨#[32]⟩ : ByteArray)) ++ decS l.due) ++ (⟨#[10]⟩ : ByteArray)) = t ++ ⟨(rowL (outW l)).toArray⟩ := by
  unfold rowL outW
  apply ByteArray.ext
  apply Array.toList_inj.1
  simp [Lib.join_cons, Lib.joinTail, ByteArray.data_append, List.append_assoc]
structure OuZ (l : OutR) : Prop where
  n : i64B l.number
  t : i64B l.tries
  d : i64B l.due
  p : l.partner.size ≤ 40
theorem ouZ {l : OutR} (h : OuOk l) : OuZ l := by
  have h1 := ctlB_iff.1 h.n
  have h2 := h.r0
  have h3 := h.r5
  have h4 := h.d
  have h5 := (nameB_sizesU h.p).2
  exact ⟨by unfold i64B; omega, by unfold i64B; omega, by unfold i64B; omega, by omega⟩
theorem outRow_len {l : OutR} (h : OuZ l) : (rowL (outW l)).length ≤ 200 := by
  have z1 := (decS_long l.number h.n.1 h.n.2).2
  have z2 := (decS_long l.tries h.t.1 h.t.2).2
  have z3 := (decS_long l.due h.d.1 h.d.2).2
  have z4 := h.p
  have e : ∀ s : ByteArray, s.data.toList.length = s.size := fun s => rfl
  unfold rowL outW
  simp only [List.map_cons, List.map_nil, Lib.join_cons, Lib.joinTail, List.flatten_cons, List.flatten_nil, List.length_append, List.length_cons, List.length_nil, e]
  omega
theorem outs_len {rs : List OutR} (h : ∀ l ∈ rs, OuZ l) : (txR (rs.map outW)).length ≤ 200 * rs.length := by
  induction rs with
  | nil => simp [txR]
  | cons a r ih =>
    have h1 := ih fun l hl => h l (List.mem_cons_of_mem _ hl)
    have h2 := outRow_len (h a List.mem_cons_self)
    simp only [List.map_cons, txR, List.flatten_cons, List.length_append, List.length_cons] at *
    omega
end Go.Proofs.YtamlhbjcokkmeaaGreatDoor
namespace Go.Proofs.YtamlhbjcokkmeaaGreatDoor
open Go.ChangeShapes Go.WideShapes Go.ChangeAt Go.RowKit
/-- The first row. -/
def dayW (g : Gat) : List ByteArray := [(⟨#[100, 97, 121]⟩ : ByteArray), decS g.day]
theorem dayW_len (g : Gat) : (dayW g).length = 2 := rfl
noncomputable def gtR1 (g : Gat) : List (List ByteArray) := [dayW g] ++ (itemsT g.book).map (stW g.book)
noncomputable def gtR2 (g : Gat) : List (List ByteArray) := gtR1 g ++ (g.book.lines.filter (goB ⟨#[]⟩)).map lnW
noncomputable def gtR3 (g : Gat) : List (List ByteArray) := gtR2 g ++ g.dffs.map dfR
noncomputable def gtR (g : Gat) : List (List ByteArray) := gtR3 g ++ g.outs.map outW
/-- What GateText tells. -/
noncomputable def gtxT (g : Gat) : ByteArray := if gtB g = true then txB (gtR g) else ⟨#[]⟩
theorem gtxT_no {g : Gat} (h : gtB g = false) : gtxT g = ⟨#[]⟩ := by simp [gtxT, h]
theorem gtxT_yes {g : Gat} (h : gtB g = true) : gtxT g = txB (gtR g) := by simp [gtxT, h]
structure GtOk (g : Gat) : Prop where
  day : 0 ≤ g.day ∧ g.day ≤ 100000
  bk : bkB g.book = true
  df : g.dffs.length ≤ 200
  ou : ousB g.outs = true
theorem gtOk {g : Gat} (h : gtB g = true) : GtOk g := by
  simp only [gtB, Bool.and_eq_true] at h
  exact ⟨dayB_iff.1 h.2.1, h.2.2.2.2.1, by simpa [dfB] using h.2.2.2.2.2.1, h.2.2.2.2.2.2⟩
theorem gt_len1 {g : Gat} : (gtR1 g).flatten.length ≤ 2102 ∧ (gtR1 g).length ≤ 301 := by
  have := itemsT_len (b := g.book)
  unfold gtR1
  rw [List.flatten_append, List.length_append, List.length_append, stW_flat, List.length_map]
  simp only [List.flatten_cons, List.flatten_nil, List.append_nil, dayW_len, List.length_cons, List.length_nil]
  omega
theorem gt_len2 {g : Gat} (h : GtOk g) : (gtR2 g).flatten.length ≤ 4502 ∧ (gtR2 g).length ≤ 501 := by
  have h1 := gt_len1 (g := g)
  have h2 := (bkB_iff.1 h.bk).2.len
  have h3 := List.length_filter_le (goB ⟨#[]⟩) g.book.lines
  unfold gtR2
  rw [List.flatten_append, List.length_append, List.length_append, lnW_flat, List.length_map]
  omega
theorem gt_len3 {g : Gat} (h : GtOk g) : (gtR3 g).flatten.length ≤ 4702 ∧ (gtR3 g).length ≤ 701 := by
  have h1 := gt_len2 h
  have h2 := h.df
  unfold gtR3
  rw [List.flatten_append, List.length_append, List.length_append, dfR_flat, List.length_map]
  omega
theorem gt_len {g : Gat} (h : GtOk g) : (gtR g).flatten.length ≤ 4942 ∧ (gtR g).length ≤ 761 := by
  have h1 := gt_len3 h
  have h2 := (ousB_iff.1 h.ou).len
  unfold gtR
  rw [List.flatten_append, List.length_append, List.length_append, outW_flat, List.length_map]
  omega
theorem gt_pos {g : Gat} : ∀ r ∈ gtR g, 0 < r.length := fun r hr => by
  simp only [gtR, gtR3, gtR2, gtR1, List.mem_append, List.mem_map, List.mem_singleton] at hr
  rcases hr with (((rfl | ⟨x, _, rfl⟩) | ⟨x, _, rfl⟩) | ⟨x, _, rfl⟩) | ⟨x, _, rfl⟩
  · rw [dayW_len]; omega
  · rw [stW_len]; omega
  · rw [lnW_len]; omega
  · rw [dfR_len]; omega
  · rw [outW_len]; omega
structure GtL (g : Gat) : Prop where
  d : (decS g.day).size ≤ 20
  s : (stkT g.book).size ≤ 60000
  l : (lnsT g.book ⟨#[]⟩).size ≤ 60000
  f : (dfsT g.dffs).size ≤ 1000000000
  o : (outT g.outs).size ≤ 20000
theorem gtL {g : Gat} (h : GtOk g) (hz : ∀ d ∈ g.dffs, DfB d) : GtL g := by
  have hd := h.day
  refine ⟨(decS_long _ (by omega) (by omega)).2, ?_, ?_, ?_, ?_⟩
  · unfold stkT
    rw [txB_size]
    have := st_len (p := g.book) (items_name h.bk)
    have := itemsT_len (b := g.book)
    omega
  · rw [lnsT_yes (by decide) h.bk, txB_size]
    have h1 := lns_len (rs := g.book.lines.filter (goB ⟨#[]⟩)) fun l hl => lnZ ((bkB_iff.1 h.bk).2.ok l (List.mem_filter.1 hl).1)
    have h2 := (bkB_iff.1 h.bk).2.len
    have h3 := List.length_filter_le (goB ⟨#[]⟩) g.book.lines
    omega
  · have := h.df
    rw [dfsT_yes (by omega), txB_size]
    have := dfs_len hz
    omega
  · rw [outT_yes h.ou, txB_size]
    have := outs_len (rs := g.outs) fun l hl => ouZ ((ousB_iff.1 h.ou).ok l hl)
    have := (ousB_iff.1 h.ou).len
    omega
theorem txB_app (a b : List (List ByteArray)) : txB (a ++ b) = txB a ++ txB b := by
  unfold txB
  rw [txR_app]
  apply ByteArray.ext
  apply Array.toList_inj.1
  simp [ByteArray.data_append]
theorem gt_app {g : Gat} (h : GtOk g) : (((((((⟨#[100, 97, 121, 32]⟩ : ByteArray) ++ decS g.day) ++ (⟨#[10]⟩ : ByteArray)) ++ stkT g.book) ++ lnsT g.book ⟨#[]⟩) ++ dfsT g.dffs) ++ outT g.outs) = txB (gtR g) := by
  have e : txB [dayW g] = ((⟨#[100, 97, 121, 32]⟩ : ByteArray) ++ decS g.day) ++ (⟨#[10]⟩ : ByteArray) := by
    unfold txB txR rowL dayW
    apply ByteArray.ext
    apply Array.toList_inj.1
    simp [Lib.join_cons, Lib.joinTail, ByteArray.data_append]
  have hd := h.df
  unfold gtR gtR3 gtR2 gtR1
  rw [txB_app, txB_app, txB_app, txB_app, e, lnsT_yes (by decide) h.bk, dfsT_yes (by omega), outT_yes h.ou]
  rfl
theorem gt_txl {g : Gat} (h : GtOk g) (hz : ∀ d ∈ g.dffs, DfB d) : (txR (gtR g)).length ≤ 100000000000 := by
  have h1 := gtL h hz
  have h2 := txB_size (gtR g)
  rw [← gt_app h] at h2
  have a := h1.d
  have b := h1.s
  have c := h1.l
  have d := h1.f
  have f := h1.o
  have e1 : (⟨#[100, 97, 121, 32]⟩ : ByteArray).size = 4 := rfl
  have e2 : (⟨#[10]⟩ : ByteArray).size = 1 := rfl
  simp only [ByteArray.size_append, e1, e2] at h2
  omega
end Go.Proofs.YtamlhbjcokkmeaaGreatDoor
