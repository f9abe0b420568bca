/- What the tables' variable holds: of each kind its name and its rows, cell by cell, in any world whose variable reads as the program's text lays it; kept where nothing below a size has changed. -/
import Derived.Test.YtphgheojfnlgjaaDoorRows
import Derived.WalkKit
import Derived.ProofKit
import Derived.OpenShut
import Derived.Below
import Derived.Stop.Joined
import Derived.MakeChecks
import Derived.LaidLaws
namespace Go.Proofs.YtphgheojfnlgjaaDoor
open Go.ChangeShapes Go.WideShapes Go.ChangeAt Go.RowKit
/-- A row: tag, least, most, form. -/
structure TRow where
  tag : List UInt8
  least : Int
  most : Int
  form : List UInt8
def TRow.datum {H : Type} (r : TRow) : DataW H := .agg [.lit (.string r.tag), .lit (.int .i64 r.least), .lit (.int .i64 r.most), .lit (.string r.form)]
def bs (l : List UInt8) : ByteArray := ⟨⟨l⟩⟩
theorem bs_of {s : ByteArray} {l : List UInt8} (h : s.data.toList = l) : s = bs l := by
  obtain ⟨⟨x⟩⟩ := s
  simp at h
  subst h
  rfl
def docS : TRow := ⟨[68, 79, 67], 1, 1, [114, 100]⟩
def docL : TRow := ⟨[68, 79, 67], 1, 1, [114, 114, 100]⟩
def notR : TRow := ⟨[78, 79, 84], 0, 2, [116]⟩
/-- The rows of each kind. -/
def rowsK : Nat → List TRow
  | 1 => [docS, notR, ⟨[76, 73, 78], 1, 20, [110, 114, 113, 63, 110]⟩]
  | 2 => [docL, ⟨[76, 73, 78], 1, 20, [110, 113, 63, 116]⟩]
  | 3 => [docL, notR, ⟨[76, 73, 78], 1, 20, [110, 113]⟩]
  | 4 => [docL, ⟨[76, 73, 78], 1, 20, [110, 113, 63, 116]⟩]
  | 5 => [docS, ⟨[73, 84, 77], 1, 20, [114, 110]⟩]
  | 6 => [docS, ⟨[73, 84, 77], 1, 20, [114, 122, 63, 116]⟩]
  | 7 => [docS, ⟨[65, 67, 75], 1, 1, [110, 110, 63, 110]⟩]
  | _ => []
def nameK : Nat → List UInt8
  | 1 => [79, 82, 68, 69, 82]
  | 2 => [65, 78, 83, 87, 69, 82]
  | 3 => [83, 69, 78, 84]
  | 4 => [71, 79, 84]
  | 5 => [83, 84, 79, 67, 75]
  | 6 => [65, 68, 74, 85, 83, 84]
  | 7 => [72, 69, 65, 82, 68]
  | _ => []
def kindD {H : Type} (k : Nat) : DataW H := .agg [.lit (.string (nameK k)), .slice ((rowsK k).map TRow.datum) []]
theorem laid_is {H : Type} : (Rows.laid_loop_example_g00096_impl_tables : DataW H) = .agg [.agg [.lit (.string []), .nil], kindD 1, kindD 2, kindD 3, kindD 4, kindD 5, kindD 6, kindD 7] := by kernel_rfl
/-- A row's four cells. -/
def RowAt (w : World) (b off : Nat) (r : TRow) : Prop :=
  w.cell? ⟨b, off, none⟩ = some (.string (bs r.tag)) ∧ w.cell? ⟨b, off + 1, none⟩ = some (.int .i64 r.least) ∧ w.cell? ⟨b, off + 2, none⟩ = some (.int .i64 r.most) ∧ w.cell? ⟨b, off + 3, none⟩ = some (.string (bs r.form))
def RowsAt (w : World) (b off : Nat) (rs : List TRow) : Prop := ∀ i r, rs[i]? = some r → RowAt w b (off + i * 4) r
/-- What the variable holds at a kind. -/
def KindAt (w : World) (k : Nat) : Prop :=
  w.cell? ⟨0, k * 2, none⟩ = some (.string (bs (nameK k))) ∧
    ∃ b off cap, w.cell? ⟨0, k * 2 + 1, none⟩ = some (.slice (some ⟨b, off, none⟩) (rowsK k).length cap) ∧ (rowsK k).length ≤ cap ∧ cap ≤ maxLen ∧ b < w.heap.size ∧ RowsAt w b off (rowsK k)
def TablesAt (w : World) : Prop := ∀ k, 1 ≤ k → k ≤ 7 → KindAt w k
theorem gTab : Tryd.prog.globalNamed "loop.example/g00096/impl.tables" = some 0 := by kernel_rfl
theorem tTab : (Tryd.prog.globals[0]?).map (·.type) = some 47 := by kernel_rfl
theorem cTab : Tryd.prog.cellsOf 47 = 16 := by kernel_rfl
theorem cKind : Tryd.prog.cellsOf 46 = 2 := by kernel_rfl
theorem cRow : Tryd.prog.cellsOf 33 = 4 := by kernel_rfl
theorem cStr : Tryd.prog.cellsOf 9 = 1 := by kernel_rfl
theorem cI64 : Tryd.prog.cellsOf 2 = 1 := by kernel_rfl
theorem cRows : Tryd.prog.cellsOf 29 = 1 := by kernel_rfl
theorem list4 {α : Type} {l : List α} (h : l.length = 4) : ∃ a b c d, l = [a, b, c, d] := by
  match l, h with
  | [a, b, c, d], _ => exact ⟨a, b, c, d, rfl⟩
theorem list2 {α : Type} {l : List α} (h : l.length = 2) : ∃ a b, l = [a, b] := by
  match l, h with
  | [a, b], _ => exact ⟨a, b, rfl⟩
theorem row_cells {w : World} {sp : Nat → Bool} {held : Bool} {fuel : Nat} {cs : List Value} {r : TRow} {p : List MemPlace}
    (h : DataW.trod (fun _ => ()) Tryd.prog w 0 sp held fuel 33 cs = some (r.datum, p)) : cs = [.string (bs r.tag), .int .i64 r.least, .int .i64 r.most, .string (bs r.form)] := by
  obtain ⟨xs, n, rfl, hx, hl, hn, hf⟩ := DataW.trod_struct Tryd.underlying33 h
  rw [cRow] at hl
  obtain ⟨c0, c1, c2, c3, rfl⟩ := list4 hl
  obtain ⟨x0, x1, x2, x3, rfl⟩ := list4 (show xs.length = 4 from hn)
  simp only [TRow.datum, Prod.mk.injEq, List.map_cons, List.map_nil, DataW.agg.injEq, List.cons.injEq, and_true] at hx
  obtain ⟨⟨e0, e1, e2, e3⟩, _⟩ := hx
  obtain ⟨s0, k0, q0, _⟩ := DataW.trod_string Tryd.underlying9 (hf 0 _ rfl)
  obtain ⟨n1, k1, q1, _⟩ := DataW.trod_int Tryd.underlying2 (hf 1 _ rfl)
  obtain ⟨n2, k2, q2, _⟩ := DataW.trod_int Tryd.underlying2 (hf 2 _ rfl)
  obtain ⟨s3, k3, q3, _⟩ := DataW.trod_string Tryd.underlying9 (hf 3 _ rfl)
  rw [q0] at e0; rw [q1] at e1; rw [q2] at e2; rw [q3] at e3
  simp only [DataW.lit.injEq, Lit.string.injEq, Lit.int.injEq, true_and] at e0 e1 e2 e3
  simp [cStr, cI64] at k0 k1 k2 k3
  rw [k0, k1, k2, k3, bs_of e0.symm, bs_of e3.symm, e1, e2]
theorem add_plain (b off i : Nat) : (⟨b, off, none⟩ : Addr).add i = ⟨b, off + i, none⟩ := by unfold Addr.add; split <;> simp_all
theorem rows_at {w : World} {held : Bool} {n : Nat} {a : Addr} {len : Nat} {rs : List TRow} {elems : List (DataW Unit × List MemPlace)} (hlen : elems.length = len)
    (he : elems.map (·.1) = rs.map TRow.datum)
    (h : ∀ i, i < len → (w.cells? 0 (a.add (i * Tryd.prog.cellsOf 33)) (Tryd.prog.cellsOf 33)).bind (DataW.trod (fun _ => ()) Tryd.prog w 0 (fun _ => true) held n 33) = elems[i]?) (h0 : 0 < len) :
    len = rs.length ∧ ∃ b off, a = ⟨b, off, none⟩ ∧ b < w.heap.size ∧ RowsAt w b off rs := by
  have hrl : elems.length = rs.length := by simpa using congrArg List.length he
  have key : ∀ i r, rs[i]? = some r → w.cells? 0 (a.add (i * 4)) 4 = some [.string (bs r.tag), .int .i64 r.least, .int .i64 r.most, .string (bs r.form)] := by
    intro i r hr
    have hi : i < rs.length := (List.getElem?_eq_some_iff.1 hr).1
    have h1 := h i (by omega)
    rw [cRow] at h1
    have hx : (elems.map (·.1))[i]? = (rs.map TRow.datum)[i]? := by rw [he]
    simp only [List.getElem?_map, hr, Option.map_some] at hx
    obtain ⟨x, hx1, hx2⟩ := Option.map_eq_some_iff.1 hx
    rw [hx1] at h1
    obtain ⟨cs, hc, hd⟩ := Option.bind_eq_some_iff.1 h1
    obtain ⟨d, p⟩ := x
    simp only at hx2
    subst hx2
    rw [hc, row_cells hd]
  have hr0 : ∃ r, rs[0]? = some r := ⟨rs[0]'(by omega), by simp [List.getElem?_eq_getElem (show 0 < rs.length by omega)]⟩
  obtain ⟨r0, hr0⟩ := hr0
  have c0 := (World.cells?_some (key 0 r0 hr0)).2.2 0 (by omega)
  obtain ⟨b, off, spot⟩ := a
  have hspot : spot = none := by
    have h2 : w.cell? (((⟨b, off, spot⟩ : Addr).add (0 * 4)).add 0) = some (.string (bs r0.tag)) := by simpa using c0
    have := World.cell?_spot h2
    simpa [Addr.add] using this
  subst hspot
  refine ⟨by omega, b, off, rfl, ?_, ?_⟩
  · have := World.block_lt_of_cell? _ _ (show w.cell? (((⟨b, off, none⟩ : Addr).add (0 * 4)).add 0) = some (.string (bs r0.tag)) by simpa using c0)
    simpa [Addr.add] using this
  · intro i r hr
    have k := (World.cells?_some (key i r hr)).2.2
    have k0 := k 0 (by omega)
    have k1 := k 1 (by omega)
    have k2 := k 2 (by omega)
    have k3 := k 3 (by omega)
    simp only [add_plain, List.getElem?_cons_zero, List.getElem?_cons_succ, Nat.add_zero] at k0 k1 k2 k3
    exact ⟨k0, k1, k2, k3⟩
theorem kind_at {w : World} {held : Bool} {fuel : Nat} {cs : List Value} {k : Nat} {p : List MemPlace} (hk : rowsK k ≠ [])
    (h : DataW.trod (fun _ => ()) Tryd.prog w 0 (fun _ => true) held fuel 46 cs = some (kindD k, p)) :
    ∃ b off cap, cs = [.string (bs (nameK k)), .slice (some ⟨b, off, none⟩) (rowsK k).length cap] ∧ (rowsK k).length ≤ cap ∧ cap ≤ maxLen ∧ b < w.heap.size ∧ RowsAt w b off (rowsK k) := by
  obtain ⟨xs, n, rfl, hx, hl, hn, hf⟩ := DataW.trod_struct Tryd.underlying46 h
  rw [cKind] at hl
  obtain ⟨c0, c1, rfl⟩ := list2 hl
  obtain ⟨x0, x1, rfl⟩ := list2 (show xs.length = 2 from hn)
  simp only [kindD, Prod.mk.injEq, List.map_cons, List.map_nil, DataW.agg.injEq, List.cons.injEq, and_true] at hx
  obtain ⟨⟨e0, e1⟩, _⟩ := hx
  obtain ⟨s0, k0, q0, _⟩ := DataW.trod_string Tryd.underlying9 (hf 0 _ rfl)
  rw [q0] at e0
  simp only [DataW.lit.injEq, Lit.string.injEq] at e0
  simp [cStr] at k0
  rcases DataW.trod_slice Tryd.underlying29 (hf 1 _ rfl) with ⟨_, q1⟩ | ⟨a, len, cap, elems, rest, n1, _, k1, q1, _, hlc, hm, hel, hrow, _, _⟩
  · rw [q1] at e1; cases e1
  · rw [q1] at e1
    simp only [DataW.slice.injEq] at e1
    simp [cRows] at k1
    have hpos : 0 < len := by
      have : elems.length = (rowsK k).length := by simpa using congrArg List.length e1.1.symm
      have := List.length_pos_iff.2 hk
      omega
    obtain ⟨hlen, b, off, rfl, hb, hR⟩ := rows_at hel e1.1.symm hrow hpos
    refine ⟨b, off, cap, ?_, by omega, hm, hb, hR⟩
    rw [k0, k1, bs_of e0.symm, hlen]
theorem of_laid {W : World} (h : laidMetH Tryd.prog [("loop.example/g00096/impl.tables", Rows.laid_loop_example_g00096_impl_tables)] W) : TablesAt W := by
  rw [MakeChecks.laidMetH_plain _ _ _ (by kernel_rfl)] at h
  obtain ⟨ps, ⟨g0, t0, cs0, f0, p0, q0, hg0, ht0, hv0, hd0, _, _⟩, _, _⟩ := h
  obtain rfl := Option.some.inj (gTab.symm.trans hg0)
  obtain rfl := Option.some.inj (tTab.symm.trans ht0)
  rw [laid_is] at hd0
  obtain ⟨xs, m, rfl, hx, hlen, hn, hel⟩ := DataW.trod_array Tryd.underlying47 hd0
  rw [cTab] at hlen
  rw [cKind] at hel
  simp only [Prod.mk.injEq, DataW.agg.injEq] at hx
  have hx1 := hx.1
  intro k h1 h7
  have hk : (xs.map (·.1))[k]? = some (kindD k) := by
    rw [← hx1]
    obtain rfl | rfl | rfl | rfl | rfl | rfl | rfl : k = 1 ∨ k = 2 ∨ k = 3 ∨ k = 4 ∨ k = 5 ∨ k = 6 ∨ k = 7 := by omega
    all_goals rfl
  rw [List.getElem?_map] at hk
  obtain ⟨⟨d, p⟩, hxk, hd⟩ := Option.map_eq_some_iff.1 hk
  simp only at hd
  subst hd
  have h2 := hel k (by omega)
  rw [hxk] at h2
  have hne : rowsK k ≠ [] := by
    obtain rfl | rfl | rfl | rfl | rfl | rfl | rfl : k = 1 ∨ k = 2 ∨ k = 3 ∨ k = 4 ∨ k = 5 ∨ k = 6 ∨ k = 7 := by omega
    all_goals (intro e; cases e)
  obtain ⟨b, off, cap, hcs, hc1, hc2, hb, hR⟩ := kind_at hne h2
  have c0 := World.var?_cell hg0 hv0 (k * 2)
  have c1 := World.var?_cell hg0 hv0 (k * 2 + 1)
  have g0 : cs0.toList[k * 2]? = some (.string (bs (nameK k))) := by
    have := congrArg (·[0]?) hcs
    simpa [List.getElem?_take, List.getElem?_drop] using this
  have g1 : cs0.toList[k * 2 + 1]? = some (.slice (some ⟨b, off, none⟩) (rowsK k).length cap) := by
    have := congrArg (·[1]?) hcs
    simpa [List.getElem?_take, List.getElem?_drop] using this
  simp only [Array.getElem?_toList] at g0 g1
  exact ⟨c0.trans g0, b, off, cap, c1.trans g1, hc1, hc2, hb, hR⟩
theorem TablesAt.below {w w' : World} {n0 : Nat} (h : TablesAt w) (hb : Below n0 w w') (hn : n0 = w.heap.size) : TablesAt w' := by
  subst hn
  intro k h1 h7
  obtain ⟨e0, b, off, cap, e1, hc1, hc2, hbl, hR⟩ := h k h1 h7
  have l0 := World.block_lt_of_cell? _ _ e0
  have l1 := World.block_lt_of_cell? _ _ e1
  refine ⟨(hb.cell l0).trans e0, b, off, cap, (hb.cell l1).trans e1, hc1, hc2, Nat.lt_of_lt_of_le hbl hb.size, ?_⟩
  intro i r hr
  obtain ⟨r0, r1, r2, r3⟩ := hR i r hr
  exact ⟨(hb.cell (p := ⟨_, _, _⟩) hbl).trans r0, (hb.cell (p := ⟨_, _, _⟩) hbl).trans r1, (hb.cell (p := ⟨_, _, _⟩) hbl).trans r2, (hb.cell (p := ⟨_, _, _⟩) hbl).trans r3⟩
end Go.Proofs.YtphgheojfnlgjaaDoor
