/- Rows of tables in lists; the model's TableOf tells the rows of a kind in a list of the call's own. -/
import Derived.Test.YtphgheojfnlgjaaDoorIsKind
import Derived.Test.YtphgheojfnlgjaaDoorKeep
import Derived.Lib.SmallJoins
import Derived.Shelf.Slices.Clone
namespace Go.Proofs.YtphgheojfnlgjaaDoor
open Go.ChangeShapes Go.WideShapes Go.ChangeAt Go.RowKit Go.Shelf
def TRow.cells (r : TRow) : List Value := [.string (bs r.tag), .int .i64 r.least, .int .i64 r.most, .string (bs r.form)]
def rowsC (rs : List TRow) : List Value := rs.flatMap TRow.cells
def rowsI (n : Int) : List TRow := if 1 ≤ n ∧ n ≤ 7 then rowsK n.toNat else []
theorem rowsI_len (n : Int) : (rowsI n).length ≤ 3 := by
  unfold rowsI
  split
  · obtain rfl | rfl | rfl | rfl | rfl | rfl | rfl : n = 1 ∨ n = 2 ∨ n = 3 ∨ n = 4 ∨ n = 5 ∨ n = 6 ∨ n = 7 := by omega
    all_goals decide
  · decide
theorem rowsC_len (rs : List TRow) : (rowsC rs).length = rs.length * 4 := by
  induction rs with
  | nil => rfl
  | cons r rs ih => simp only [rowsC, List.flatMap_cons, List.length_append, List.length_cons] at ih ⊢; rw [ih]; simp [TRow.cells]; omega
theorem rowsC_at (rs : List TRow) : ∀ (i : Nat) (r : TRow) (c : Nat), rs[i]? = some r → c < 4 → (rowsC rs)[i * 4 + c]? = r.cells[c]? := by
  induction rs with
  | nil => intro i r c h; simp at h
  | cons x rs ih =>
    intro i r c h hc
    have hx : x.cells.length = 4 := rfl
    cases i with
    | zero =>
      simp only [List.getElem?_cons_zero, Option.some.injEq] at h
      subst h
      simp only [rowsC, List.flatMap_cons]
      rw [List.getElem?_append_left (by omega)]
      simp
    | succ i =>
      simp only [List.getElem?_cons_succ] at h
      simp only [rowsC, List.flatMap_cons]
      rw [List.getElem?_append_right (by omega), hx]
      have := ih i r c h hc
      rw [← this]
      unfold rowsC
      congr 1
      omega
/-- Rows in a list of the call's own. -/
def OwnT (n0 : Nat) (w : World) (v : Value) (rs : List TRow) : Prop := w.ownsRow n0 33 4 v rs.length (rowsC rs)
/-- Rows in a list. -/
def SlT (w : World) (v : Value) (rs : List TRow) : Prop := ∃ A C, v = .slice A rs.length C ∧ (0 < rs.length → ∃ b off, A = some ⟨b, off, none⟩ ∧ RowsAt w b off rs)
theorem OwnT.sl {n0 : Nat} {w : World} {v : Value} {rs : List TRow} (h : OwnT n0 w v rs) : SlT w v rs := by
  rcases h.2 with ⟨rfl, e⟩ | ⟨g, cap, cur, rfl, hb, hgb, _, _, _, htk⟩
  · exact ⟨none, 0, by rw [e], fun h => by omega⟩
  · refine ⟨_, cap, rfl, fun _ => ⟨g, 0, rfl, fun i r hr => ?_⟩⟩
    have hi : i < rs.length := (List.getElem?_eq_some_iff.1 hr).1
    have key : ∀ c, c < 4 → w.cell? ⟨g, 0 + i * 4 + c, none⟩ = r.cells[c]? := by
      intro c hc
      have h1 : (cur.toList.take (rs.length * 4))[i * 4 + c]? = (rowsC rs)[i * 4 + c]? := by rw [htk]
      rw [List.getElem?_take_of_lt (by omega), rowsC_at rs i r c hr hc] at h1
      rw [← h1]
      simp [World.cell?, hgb]
    exact ⟨key 0 (by omega), key 1 (by omega), key 2 (by omega), key 3 (by omega)⟩
theorem SlT.below {w w' : World} {v : Value} {rs : List TRow} (h : SlT w v rs) (hb : Below w.heap.size w w') : SlT w' v rs := by
  obtain ⟨A, C, e, h⟩ := h
  refine ⟨A, C, e, fun h0 => ?_⟩
  obtain ⟨b, off, e1, hR⟩ := h h0
  refine ⟨b, off, e1, fun i r hr => ?_⟩
  obtain ⟨r0, r1, r2, r3⟩ := hR i r hr
  exact ⟨(hb.cell (World.block_lt_of_cell? _ _ r0)).trans r0, (hb.cell (World.block_lt_of_cell? _ _ r1)).trans r1, (hb.cell (World.block_lt_of_cell? _ _ r2)).trans r2, (hb.cell (World.block_lt_of_cell? _ _ r3)).trans r3⟩
theorem bel3 (w : World) (o1 o2 o3 o4 : Obj) : Below w.heap.size w ((((w.alloc o1).alloc o2).alloc o3).alloc o4) :=
  ((((Below.refl _ w).alloc (Nat.le_refl _) _).alloc (by simp) _).alloc (by simp; omega) _).alloc (by simp; omega) _
theorem own3 (w : World) (o1 o2 o3 : Obj) (c : Array Value) (n : Nat) (rs : List TRow) (hn : rs.length = n) (hc : c.toList = rowsC rs) (hm : n ≤ 1000) :
    OwnT w.heap.size ((((w.alloc o1).alloc o2).alloc o3).alloc (.cells c 33)) (.slice (some ⟨w.heap.size + 1 + 1 + 1, 0, none⟩) n n) rs := by
  subst hn
  refine ⟨rowsC_len rs, .inr ⟨_, rs.length, c, rfl, by omega, ?_, Nat.le_refl _, by unfold maxLen; omega, ?_, ?_⟩⟩
  · have := (MapKept.heap_alloc (((w.alloc o1).alloc o2).alloc o3) (.cells c 33)).1
    simpa using this
  · rw [← rowsC_len, ← hc]; simp
  · rw [← hc, ← rowsC_len, ← hc]; exact List.take_length
set_option maxHeartbeats 4000000 in
theorem tableOf_spec (n : Int) (w : World) :
    Calls Tryd.prog 15 #[.int .i64 n] w fun e w' => ∃ v, e = .returned v ∧ OwnT w.heap.size w' v (rowsI n) ∧ Below w.heap.size w w' := by
  by_cases hk : 1 ≤ n ∧ n ≤ 7
  · obtain rfl | rfl | rfl | rfl | rfl | rfl | rfl : n = 1 ∨ n = 2 ∨ n = 3 ∨ n = 4 ∨ n = 5 ∨ n = 6 ∨ n = 7 := by omega
    all_goals
      go_enter Tryd.func15, Tryd.ntmps15
      go_wp2
      go_ret
      exact ⟨_, rfl, own3 w _ _ _ _ _ _ (by kernel_rfl) (by kernel_rfl) (by omega), bel3 w _ _ _ _⟩
  · have e : rowsI n = [] := by simp [rowsI, hk]
    have h1 : (n == 1) = false := by simp; omega
    have h2 : (n == 2) = false := by simp; omega
    have h3 : (n == 3) = false := by simp; omega
    have h4 : (n == 4) = false := by simp; omega
    have h5 : (n == 5) = false := by simp; omega
    have h6 : (n == 6) = false := by simp; omega
    have h7 : (n == 7) = false := by simp; omega
    rw [e]
    go_enter Tryd.func15, Tryd.ntmps15
    go_wp2
    go_ret
    exact ⟨_, rfl, own3 w _ _ _ _ _ _ rfl rfl (by omega), bel3 w _ _ _ _⟩
end Go.Proofs.YtphgheojfnlgjaaDoor
