/- Texts of ours put together: OpenBk, OpenDf. -/
import Derived.Test.YtagajindaipaeaaG04
import Derived.Test.YtagajindaipaeaaG24
import Derived.Test.YtagajindaipaeaaG21
import Derived.Test.YtagajindaipaeaaG05
namespace Go.Proofs.Ytagajindaipaeaa
open Go.ChangeShapes Go.WideShapes Go.ChangeAt Go.RowKit Go.Joins Go.Deep
theorem cellsBk : Try.prog.cellsOf 41 = 2 := by kernel_rfl
theorem lstBk {α : Type} {l : List α} (h : l.length = 2) : ∃ a0 a1, l = [a0, a1] := by
  match l, h with
  | [a0, a1], _ => exact ⟨a0, a1, rfl⟩
section
variable {H : Type} {enc : TypeId × Value → H} {W : World} {base : Nat} {spare : Nat → Bool} {held : Bool}
theorem openBk {fuel : Nat} {cs : List Value} {x : DataW H × List MemPlace} (h : DataW.trod enc Try.prog W base spare held fuel 41 cs = some x) :
    ∃ (r : Bk) (us ul : Value), cs = [us, ul] ∧ RBk W us ul r := by
  obtain ⟨xs, n, rfl, hx, hl, hn, hf⟩ := DataW.trod_struct Try.underlying41 h
  rw [cellsBk] at hl
  obtain ⟨c0, c1, rfl⟩ := lstBk hl
  obtain ⟨x0, x1, rfl⟩ := lstBk (show xs.length = 2 from hn)
  obtain ⟨u, ls, k0, r0⟩ := openSts (hf 0 _ rfl)
  obtain ⟨u1, ls1, k1, r1⟩ := openOls (hf 1 _ rfl)
  simp [cellssSt, cellssOl] at k0 k1
  exact ⟨⟨ls, ls1⟩, u, u1, by rw [k0, k1], ⟨r0, r1⟩⟩
set_option maxRecDepth 100000 in
theorem openBka {r : Reach} {b0 : Nat} {v : Value} {d : DataW H} {p : List MemPlace} (hv : Value.okWide Try.prog W r b0 41 v) (h : DataW.Trod enc Try.prog W base spare held 41 v d p) :
    ∃ (q : Bk) (us ul : Value), v = .agg #[us, ul] ∧ RBk W us ul q := by
  obtain ⟨cs, rfl, hsz⟩ := okWide_struct Try.underlying41 hv
  obtain ⟨fuel, hf0⟩ := h
  obtain ⟨q, u, u', hq, hR⟩ := openBk hf0
  refine ⟨q, u, u', ?_, hR⟩
  obtain ⟨l⟩ := cs
  simp [Value.cells] at hq
  rw [hq]
end
end Go.Proofs.Ytagajindaipaeaa
namespace Go.Proofs.Ytagajindaipaeaa
open Go.ChangeShapes Go.WideShapes Go.ChangeAt Go.RowKit Go.Joins Go.Deep
theorem cellsDf : Try.prog.cellsOf 105 = 6 := by kernel_rfl
theorem cellssDf : Try.prog.cellsOf 42 = 1 := by kernel_rfl
theorem lstDf {α : Type} {l : List α} (h : l.length = 6) : ∃ a0 a1 a2 a3 a4 a5, l = [a0, a1, a2, a3, a4, a5] := by
  match l, h with
  | [a0, a1, a2, a3, a4, a5], _ => exact ⟨a0, a1, a2, a3, a4, a5, rfl⟩
section
variable {H : Type} {enc : TypeId × Value → H} {W : World} {base : Nat} {spare : Nat → Bool} {held : Bool}
theorem openDf {fuel : Nat} {cs : List Value} {x : DataW H × List MemPlace} (h : DataW.trod enc Try.prog W base spare held fuel 105 cs = some x) :
    ∃ r : Dff, cs = [.int .i64 r.kind, .string r.partner, .string r.ref, .int .i64 r.no, .string r.item, .int .i64 r.qty] ∧ r.partner.size ≤ 9223372036854775807 ∧ r.ref.size ≤ 9223372036854775807 ∧ r.item.size ≤ 9223372036854775807 := by
  obtain ⟨xs, n, rfl, hx, hl, hn, hf⟩ := DataW.trod_struct Try.underlying105 h
  rw [cellsDf] at hl
  obtain ⟨c0, c1, c2, c3, c4, c5, rfl⟩ := lstDf hl
  obtain ⟨x0, x1, x2, x3, x4, x5, rfl⟩ := lstDf (show xs.length = 6 from hn)
  obtain ⟨n0, k0, _, _⟩ := DataW.trod_int Try.underlying2 (hf 0 _ rfl)
  obtain ⟨n1, k1, _, z1⟩ := DataW.trod_string Try.underlying9 (hf 1 _ rfl)
  obtain ⟨n2, k2, _, z2⟩ := DataW.trod_string Try.underlying9 (hf 2 _ rfl)
  obtain ⟨n3, k3, _, _⟩ := DataW.trod_int Try.underlying2 (hf 3 _ rfl)
  obtain ⟨n4, k4, _, z4⟩ := DataW.trod_string Try.underlying9 (hf 4 _ rfl)
  obtain ⟨n5, k5, _, _⟩ := DataW.trod_int Try.underlying2 (hf 5 _ rfl)
  simp [cellsI64, cellsString] at k0 k1 k2 k3 k4 k5
  unfold maxLen at z1 z2 z4
  exact ⟨⟨n0, n1, n2, n3, n4, n5⟩, by rw [k0, k1, k2, k3, k4, k5], z1, z2, z4⟩
theorem openDfs {fuel : Nat} {cs : List Value} {x : DataW H × List MemPlace} (h : DataW.trod enc Try.prog W base spare held fuel 42 cs = some x) : ∃ v rs, cs = [v] ∧ RowDf W v rs := by
  rcases open_slice Try.underlying42 h with ⟨rfl, _⟩ | ⟨a, len, cap, m, n, D, Pl, rfl, _, hl, hm, hmm, _, hx⟩
  · exact ⟨_, [], rfl, RowDf.nil W⟩
  · have hlm : len ≤ m := by rw [hmm]; split <;> omega
    have inh : Inhabited Dff := ⟨⟨0, ⟨#[]⟩, ⟨#[]⟩, 0, ⟨#[]⟩, 0⟩⟩
    obtain ⟨f, hf⟩ := choose_lt (α := Dff) (p := fun i l => (W.cell? ((a.add (i * 6)).add 0) = some (.int .i64 l.kind) ∧ W.cell? ((a.add (i * 6)).add 1) = some (.string l.partner) ∧ W.cell? ((a.add (i * 6)).add 2) = some (.string l.ref) ∧ W.cell? ((a.add (i * 6)).add 3) = some (.int .i64 l.no) ∧ W.cell? ((a.add (i * 6)).add 4) = some (.string l.item) ∧ W.cell? ((a.add (i * 6)).add 5) = some (.int .i64 l.qty)) ∧ l.partner.size ≤ 9223372036854775807 ∧ l.ref.size ≤ 9223372036854775807 ∧ l.item.size ≤ 9223372036854775807) (n := len) (fun i hi => by
      obtain ⟨cs', h1, h2⟩ := hx i (by omega)
      rw [cellsDf] at h1
      obtain ⟨l, rfl, hz⟩ := openDf h2
      have k := (World.cells?_some h1).2.2
      have k0 := k 0 (by omega)
      have k1 := k 1 (by omega)
      have k2 := k 2 (by omega)
      have k3 := k 3 (by omega)
      have k4 := k 4 (by omega)
      have k5 := k 5 (by omega)
      refine ⟨l, ⟨⟨?_, ?_, ?_, ?_, ?_, ?_⟩, hz⟩⟩
      · simpa using k0
      · simpa using k1
      · simpa using k2
      · simpa using k3
      · simpa using k4
      · simpa using k5)
    have htl : ((List.range len).map f).length = len := by simp
    unfold maxLen at hm
    have hget : ∀ (i : Nat) (g : Dff), ((List.range len).map f)[i]? = some g → i < len ∧ g = f i := fun i g hi => by
      have hil := (List.getElem?_eq_some_iff.1 hi).1
      rw [htl] at hil
      exact ⟨hil, by simpa [hil] using hi.symm⟩
    refine ⟨_, (List.range len).map f, rfl, ⟨⟨some a, cap, by rw [htl], fun hn => ?_⟩, by omega, fun i g hi => by obtain ⟨hil, rfl⟩ := hget i g hi; exact (hf i hil).2⟩⟩
    obtain ⟨b, off, spot⟩ := a
    have hpos : 0 < len := by
      rcases Nat.eq_zero_or_pos len with rfl | g
      · exact absurd (by simp) hn
      · exact g
    have h0 := (hf 0 hpos).1.1
    have hspot : spot = none := by simpa [Addr.add] using World.cell?_spot h0
    subst hspot
    refine ⟨b, off, rfl, fun i g hi => ?_⟩
    obtain ⟨hil, rfl⟩ := hget i g hi
    obtain ⟨⟨k0, k1, k2, k3, k4, k5⟩, _⟩ := hf i hil
    rw [fl_addr, fl_addr] at k0 k1 k2 k3 k4 k5
    exact ⟨k0, k1, k2, k3, k4, k5⟩
set_option maxRecDepth 100000 in
theorem openDfa {r : Reach} {b0 : Nat} {v : Value} {d : DataW H} {p : List MemPlace} (hv : Value.okWide Try.prog W r b0 105 v) (h : DataW.Trod enc Try.prog W base spare held 105 v d p) :
    ∃ q : Dff, v = .agg #[.int .i64 q.kind, .string q.partner, .string q.ref, .int .i64 q.no, .string q.item, .int .i64 q.qty] ∧ q.partner.size ≤ 9223372036854775807 ∧ q.ref.size ≤ 9223372036854775807 ∧ q.item.size ≤ 9223372036854775807 := by
  obtain ⟨cs, rfl, hsz⟩ := okWide_struct Try.underlying105 hv
  obtain ⟨fuel, hf0⟩ := h
  obtain ⟨q, hq, hz⟩ := openDf hf0
  refine ⟨q, ?_, hz⟩
  obtain ⟨l⟩ := cs
  simp [Value.cells] at hq
  rw [hq]
set_option maxRecDepth 100000 in
theorem openDfsa {r : Reach} {b0 : Nat} {v : Value} {d : DataW H} {p : List MemPlace} (hv : Value.okWide Try.prog W r b0 42 v) (h : DataW.Trod enc Try.prog W base spare held 42 v d p) :
    ∃ rs, RowDf W v rs := by
  obtain ⟨a, l, c, rfl⟩ := okWide_slice Try.underlying42 hv
  obtain ⟨fuel, hf0⟩ := h
  obtain ⟨v', rs, e, hR⟩ := openDfs hf0
  simp [Value.cells] at e
  subst e
  exact ⟨rs, hR⟩
end
end Go.Proofs.Ytagajindaipaeaa
