/- An argument that is a paper, opened: its numbers are of 64 bits. -/
import Derived.Test.YtbefefmfpenkkaaGreatDoorOpenS
import Derived.Test.YtbefefmfpenkkaaGreatDoorPiH
namespace Go.Proofs.YtbefefmfpenkkaaGreatDoor
open Go.ChangeShapes Go.WideShapes Go.ChangeAt Go.RowKit Go.Joins Go.Deep
theorem cellsI64 : Tryz.prog.cellsOf 2 = 1 := by kernel_rfl
theorem cellsLine : Tryz.prog.cellsOf 61 = 5 := by kernel_rfl
theorem cellsLines : Tryz.prog.cellsOf 23 = 1 := by kernel_rfl
theorem cellsPaper : Tryz.prog.cellsOf 25 = 6 := by kernel_rfl
theorem list5 {α : Type} {l : List α} (h : l.length = 5) : ∃ a b c d e, l = [a, b, c, d, e] := by
  match l, h with
  | [a, b, c, d, e], _ => exact ⟨a, b, c, d, e, rfl⟩
theorem list6 {α : Type} {l : List α} (h : l.length = 6) : ∃ a b c d e f, l = [a, b, c, d, e, f] := by
  match l, h with
  | [a, b, c, d, e, f], _ => exact ⟨a, b, c, d, e, f, rfl⟩
theorem array6 {α : Type} {cs : Array α} (h : cs.size = 6) : ∃ a b c d e f, cs = #[a, b, c, d, e, f] := by
  obtain ⟨l⟩ := cs
  obtain ⟨a, b, c, d, e, f, rfl⟩ := list6 (show l.length = 6 from h)
  exact ⟨a, b, c, d, e, f, rfl⟩
theorem wf_bd {n : Int} (h : (Lit.int .i64 n).wf = true) : i64B n := by
  simp only [Lit.wf, Bool.and_eq_true, decide_eq_true_eq] at h
  have e1 : IntKind.i64.min = -9223372036854775808 := by decide
  have e2 : IntKind.i64.max = 9223372036854775807 := by decide
  rw [e1, e2] at h
  exact h
section
variable {H : Type} {enc : TypeId × Value → H} {W : World} {base : Nat} {spare : Nat → Bool} {held : Bool}
theorem openLn {fuel : Nat} {cs : List Value} {x : DataW H × List MemPlace} (h : DataW.trod enc Tryz.prog W base spare held fuel 61 cs = some x) :
    ∃ l : Ln, cs = [.int .i64 l.no, .string l.item, .int .i64 l.qty, .int .i64 l.money, .string l.note] ∧ l.item.size ≤ 9223372036854775807 ∧ l.note.size ≤ 9223372036854775807 ∧ LnI l := by
  obtain ⟨xs, n, rfl, hx, hl, hn, hf⟩ := DataW.trod_struct Tryz.underlying61 h
  rw [cellsLine] at hl
  obtain ⟨c0, c1, c2, c3, c4, rfl⟩ := list5 hl
  obtain ⟨x0, x1, x2, x3, x4, rfl⟩ := list5 (show xs.length = 5 from hn)
  obtain ⟨n0, k0, _, i0⟩ := DataW.trod_int Tryz.underlying2 (hf 0 _ rfl)
  obtain ⟨s1, k1, _, z1⟩ := DataW.trod_string Tryz.underlying9 (hf 1 _ rfl)
  obtain ⟨n2, k2, _, i2⟩ := DataW.trod_int Tryz.underlying2 (hf 2 _ rfl)
  obtain ⟨n3, k3, _, i3⟩ := DataW.trod_int Tryz.underlying2 (hf 3 _ rfl)
  obtain ⟨s4, k4, _, z4⟩ := DataW.trod_string Tryz.underlying9 (hf 4 _ rfl)
  simp [cellsString, cellsI64] at k0 k1 k2 k3 k4
  unfold maxLen at z1 z4
  exact ⟨⟨n0, s1, n2, n3, s4⟩, by rw [k0, k1, k2, k3, k4], z1, z4, wf_bd i0, wf_bd i2, wf_bd i3⟩
theorem openL {fuel : Nat} {cs : List Value} {x : DataW H × List MemPlace} (h : DataW.trod enc Tryz.prog W base spare held fuel 23 cs = some x) : ∃ v ls, cs = [v] ∧ RowL W v ls ∧ ∀ l ∈ ls, LnI l := by
  rcases open_slice Tryz.underlying23 h with ⟨rfl, _⟩ | ⟨a, len, cap, m, n, D, Pl, rfl, _, hl, hm, hmm, _, hx⟩
  · exact ⟨_, [], rfl, ⟨⟨_, _, rfl, fun h => absurd rfl h⟩, by simp, fun i l hi => by simp at hi⟩, fun l hl => by simp at hl⟩
  · have hlm : len ≤ m := by rw [hmm]; split <;> omega
    have inh : Inhabited Ln := ⟨⟨0, ⟨#[]⟩, 0, 0, ⟨#[]⟩⟩⟩
    obtain ⟨f, hf⟩ := choose_lt (α := Ln) (p := fun i l => (W.cell? ((a.add (i * 5)).add 0) = some (.int .i64 l.no) ∧ W.cell? ((a.add (i * 5)).add 1) = some (.string l.item) ∧ W.cell? ((a.add (i * 5)).add 2) = some (.int .i64 l.qty) ∧ W.cell? ((a.add (i * 5)).add 3) = some (.int .i64 l.money) ∧ W.cell? ((a.add (i * 5)).add 4) = some (.string l.note)) ∧ l.item.size ≤ 9223372036854775807 ∧ l.note.size ≤ 9223372036854775807 ∧ LnI l) (n := len) (fun i hi => by
      obtain ⟨cs', h1, h2⟩ := hx i (by omega)
      rw [cellsLine] at h1
      obtain ⟨l, rfl, z1, z2, zI⟩ := openLn h2
      have k := (World.cells?_some h1).2.2
      have k0 := k 0 (by omega)
      have k1 := k 1 (by omega)
      have k2 := k 2 (by omega)
      have k3 := k 3 (by omega)
      have k4 := k 4 (by omega)
      refine ⟨l, ⟨?_, ?_, ?_, ?_, ?_⟩, z1, z2, zI⟩
      · simpa using k0
      · simpa using k1
      · simpa using k2
      · simpa using k3
      · simpa using k4)
    have htl : ((List.range len).map f).length = len := by simp
    unfold maxLen at hm
    have hget : ∀ (i : Nat) (g : Ln), ((List.range len).map f)[i]? = some g → i < len ∧ g = f i := fun i g hi => by
      have hil := (List.getElem?_eq_some_iff.1 hi).1
      rw [htl] at hil
      exact ⟨hil, by simpa [hil] using hi.symm⟩
    refine ⟨_, (List.range len).map f, rfl, ⟨⟨some a, cap, by rw [htl], fun hn => ?_⟩, by omega, fun i g hi => ?_⟩, fun g hg => ?_⟩
    · obtain ⟨b, off, spot⟩ := a
      have hpos : 0 < len := by
        rcases Nat.eq_zero_or_pos len with rfl | g
        · exact absurd (by simp) hn
        · exact g
      have h0 := (hf 0 hpos).1.1
      have hspot : spot = none := by simpa [Addr.add] using World.cell?_spot h0
      subst hspot
      refine ⟨b, off, rfl, fun i g hi => ?_⟩
      obtain ⟨hil, rfl⟩ := hget i g hi
      obtain ⟨⟨k0, k1, k2, k3, k4⟩, _, _, _⟩ := hf i hil
      rw [addr_plain, addr_plain] at k0 k1 k2 k3 k4
      exact ⟨k0, k1, k2, k3, k4⟩
    · obtain ⟨hil, rfl⟩ := hget i g hi
      exact ⟨(hf i hil).2.1, (hf i hil).2.2.1⟩
    · obtain ⟨i, hi⟩ := List.getElem?_of_mem hg
      obtain ⟨hil, rfl⟩ := hget i g hi
      exact (hf i hil).2.2.2
set_option maxRecDepth 100000 in
theorem openP {r : Reach} {b0 : Nat} {v : Value} {d : DataW H} {p : List MemPlace} (hv : Value.okWide Tryz.prog W r b0 25 v) (h : DataW.Trod enc Tryz.prog W base spare held 25 v d p) :
    ∃ (q : Pap) (vn vl : Value), v = .agg #[.int .i64 q.kind, .string q.ref, .string q.other, .int .i64 q.day, vn, vl] ∧ PapR W vn vl q ∧ PapI q := by
  obtain ⟨cs, rfl, hsz⟩ := okWide_struct Tryz.underlying25 hv
  obtain ⟨c0, c1, c2, c3, c4, c5, rfl⟩ := array6 (hsz.trans cellsPaper)
  obtain ⟨fuel, hf0⟩ := h
  obtain ⟨xs, n, rfl, hx, hl, hn, hf⟩ := DataW.trod_struct Tryz.underlying25 hf0
  obtain ⟨x0, x1, x2, x3, x4, x5, rfl⟩ := list6 (show xs.length = 6 from hn)
  obtain ⟨n0, k0, _, _⟩ := DataW.trod_int Tryz.underlying2 (hf 0 _ rfl)
  obtain ⟨s1, k1, _, z1⟩ := DataW.trod_string Tryz.underlying9 (hf 1 _ rfl)
  obtain ⟨s2, k2, _, z2⟩ := DataW.trod_string Tryz.underlying9 (hf 2 _ rfl)
  obtain ⟨n3, k3, _, i3⟩ := DataW.trod_int Tryz.underlying2 (hf 3 _ rfl)
  obtain ⟨vn, ns, k4, r4⟩ := openS (hf 4 _ rfl)
  obtain ⟨vl, ls, k5, r5, rI⟩ := openL (hf 5 _ rfl)
  simp [Value.cells, cellsString, cellsI64, cellsStrings, cellsLines] at k0 k1 k2 k3 k4 k5
  unfold maxLen at z1 z2
  exact ⟨⟨n0, s1, s2, n3, ns, ls⟩, vn, vl, by rw [k0, k1, k2, k3, k4, k5], ⟨r4, r5, z1, z2⟩, wf_bd i3, rI⟩
end
end Go.Proofs.YtbefefmfpenkkaaGreatDoor
