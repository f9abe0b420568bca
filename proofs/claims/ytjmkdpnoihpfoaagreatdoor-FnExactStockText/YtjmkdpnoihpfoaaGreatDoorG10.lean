/- Texts of ours put together: OpenOl, OpenBk, AppTx. -/
import Derived.Test.YtjmkdpnoihpfoaaGreatDoorG09
import Derived.Test.YtjmkdpnoihpfoaaGreatDoorG02
import Derived.Test.YtjmkdpnoihpfoaaGreatDoorG03
import Derived.Test.YtjmkdpnoihpfoaaGreatDoorG01
import Derived.Laws.AppendOwn
import Derived.Maps.AppendAt
namespace Go.Proofs.YtjmkdpnoihpfoaaGreatDoor
open Go.ChangeShapes Go.WideShapes Go.ChangeAt Go.RowKit Go.Joins Go.Deep
theorem cellsOl : Tryz.prog.cellsOf 57 = 8 := by kernel_rfl
theorem cellssOl : Tryz.prog.cellsOf 23 = 1 := by kernel_rfl
theorem lstOl {α : Type} {l : List α} (h : l.length = 8) : ∃ a0 a1 a2 a3 a4 a5 a6 a7, l = [a0, a1, a2, a3, a4, a5, a6, a7] := by
  match l, h with
  | [a0, a1, a2, a3, a4, a5, a6, a7], _ => exact ⟨a0, a1, a2, a3, a4, a5, a6, a7, rfl⟩
section
variable {H : Type} {enc : TypeId × Value → H} {W : World} {base : Nat} {spare : Nat → Bool} {held : Bool}
theorem openOl {fuel : Nat} {cs : List Value} {x : DataW H × List MemPlace} (h : DataW.trod enc Tryz.prog W base spare held fuel 57 cs = some x) :
    ∃ r : OLn, cs = [.string r.partner, .string r.ref, .int .i64 r.no, .string r.item, .int .i64 r.ordered, .int .i64 r.sent, .int .i64 r.got, .int .i64 r.cut] ∧ r.partner.size ≤ 9223372036854775807 ∧ r.ref.size ≤ 9223372036854775807 ∧ r.item.size ≤ 9223372036854775807 := by
  obtain ⟨xs, n, rfl, hx, hl, hn, hf⟩ := DataW.trod_struct Tryz.underlying57 h
  rw [cellsOl] at hl
  obtain ⟨c0, c1, c2, c3, c4, c5, c6, c7, rfl⟩ := lstOl hl
  obtain ⟨x0, x1, x2, x3, x4, x5, x6, x7, rfl⟩ := lstOl (show xs.length = 8 from hn)
  obtain ⟨n0, k0, _, z0⟩ := DataW.trod_string Tryz.underlying9 (hf 0 _ rfl)
  obtain ⟨n1, k1, _, z1⟩ := DataW.trod_string Tryz.underlying9 (hf 1 _ rfl)
  obtain ⟨n2, k2, _, _⟩ := DataW.trod_int Tryz.underlying2 (hf 2 _ rfl)
  obtain ⟨n3, k3, _, z3⟩ := DataW.trod_string Tryz.underlying9 (hf 3 _ rfl)
  obtain ⟨n4, k4, _, _⟩ := DataW.trod_int Tryz.underlying2 (hf 4 _ rfl)
  obtain ⟨n5, k5, _, _⟩ := DataW.trod_int Tryz.underlying2 (hf 5 _ rfl)
  obtain ⟨n6, k6, _, _⟩ := DataW.trod_int Tryz.underlying2 (hf 6 _ rfl)
  obtain ⟨n7, k7, _, _⟩ := DataW.trod_int Tryz.underlying2 (hf 7 _ rfl)
  simp [cellsI64, cellsString] at k0 k1 k2 k3 k4 k5 k6 k7
  unfold maxLen at z0 z1 z3
  exact ⟨⟨n0, n1, n2, n3, n4, n5, n6, n7⟩, by rw [k0, k1, k2, k3, k4, k5, k6, k7], z0, z1, z3⟩
theorem openOls {fuel : Nat} {cs : List Value} {x : DataW H × List MemPlace} (h : DataW.trod enc Tryz.prog W base spare held fuel 23 cs = some x) : ∃ v rs, cs = [v] ∧ RowOl W v rs := by
  rcases open_slice Tryz.underlying23 h with ⟨rfl, _⟩ | ⟨a, len, cap, m, n, D, Pl, rfl, _, hl, hm, hmm, _, hx⟩
  · exact ⟨_, [], rfl, RowOl.nil W⟩
  · have hlm : len ≤ m := by rw [hmm]; split <;> omega
    have inh : Inhabited OLn := ⟨⟨⟨#[]⟩, ⟨#[]⟩, 0, ⟨#[]⟩, 0, 0, 0, 0⟩⟩
    obtain ⟨f, hf⟩ := choose_lt (α := OLn) (p := fun i l => (W.cell? ((a.add (i * 8)).add 0) = some (.string l.partner) ∧ W.cell? ((a.add (i * 8)).add 1) = some (.string l.ref) ∧ W.cell? ((a.add (i * 8)).add 2) = some (.int .i64 l.no) ∧ W.cell? ((a.add (i * 8)).add 3) = some (.string l.item) ∧ W.cell? ((a.add (i * 8)).add 4) = some (.int .i64 l.ordered) ∧ W.cell? ((a.add (i * 8)).add 5) = some (.int .i64 l.sent) ∧ W.cell? ((a.add (i * 8)).add 6) = some (.int .i64 l.got) ∧ W.cell? ((a.add (i * 8)).add 7) = some (.int .i64 l.cut)) ∧ l.partner.size ≤ 9223372036854775807 ∧ l.ref.size ≤ 9223372036854775807 ∧ l.item.size ≤ 9223372036854775807) (n := len) (fun i hi => by
      obtain ⟨cs', h1, h2⟩ := hx i (by omega)
      rw [cellsOl] at h1
      obtain ⟨l, rfl, hz⟩ := openOl h2
      have k := (World.cells?_some h1).2.2
      have k0 := k 0 (by omega)
      have k1 := k 1 (by omega)
      have k2 := k 2 (by omega)
      have k3 := k 3 (by omega)
      have k4 := k 4 (by omega)
      have k5 := k 5 (by omega)
      have k6 := k 6 (by omega)
      have k7 := k 7 (by omega)
      refine ⟨l, ⟨⟨?_, ?_, ?_, ?_, ?_, ?_, ?_, ?_⟩, hz⟩⟩
      · simpa using k0
      · simpa using k1
      · simpa using k2
      · simpa using k3
      · simpa using k4
      · simpa using k5
      · simpa using k6
      · simpa using k7)
    have htl : ((List.range len).map f).length = len := by simp
    unfold maxLen at hm
    have hget : ∀ (i : Nat) (g : OLn), ((List.range len).map f)[i]? = some g → i < len ∧ g = f i := fun i g hi => by
      have hil := (List.getElem?_eq_some_iff.1 hi).1
      rw [htl] at hil
      exact ⟨hil, by simpa [hil] using hi.symm⟩
    refine ⟨_, (List.range len).map f, rfl, ⟨⟨some a, cap, by rw [htl], fun hn => ?_⟩, by omega, fun i g hi => by obtain ⟨hil, rfl⟩ := hget i g hi; exact (hf i hil).2⟩⟩
    obtain ⟨b, off, spot⟩ := a
    have hpos : 0 < len := by
      rcases Nat.eq_zero_or_pos len with rfl | g
      · exact absurd (by simp) hn
      · exact g
    have h0 := (hf 0 hpos).1.1
    have hspot : spot = none := by simpa [Addr.add] using World.cell?_spot h0
    subst hspot
    refine ⟨b, off, rfl, fun i g hi => ?_⟩
    obtain ⟨hil, rfl⟩ := hget i g hi
    obtain ⟨⟨k0, k1, k2, k3, k4, k5, k6, k7⟩, _⟩ := hf i hil
    rw [fl_addr, fl_addr] at k0 k1 k2 k3 k4 k5 k6 k7
    exact ⟨k0, k1, k2, k3, k4, k5, k6, k7⟩
set_option maxRecDepth 100000 in
theorem openOla {r : Reach} {b0 : Nat} {v : Value} {d : DataW H} {p : List MemPlace} (hv : Value.okWide Tryz.prog W r b0 57 v) (h : DataW.Trod enc Tryz.prog W base spare held 57 v d p) :
    ∃ q : OLn, v = .agg #[.string q.partner, .string q.ref, .int .i64 q.no, .string q.item, .int .i64 q.ordered, .int .i64 q.sent, .int .i64 q.got, .int .i64 q.cut] ∧ q.partner.size ≤ 9223372036854775807 ∧ q.ref.size ≤ 9223372036854775807 ∧ q.item.size ≤ 9223372036854775807 := by
  obtain ⟨cs, rfl, hsz⟩ := okWide_struct Tryz.underlying57 hv
  obtain ⟨fuel, hf0⟩ := h
  obtain ⟨q, hq, hz⟩ := openOl hf0
  refine ⟨q, ?_, hz⟩
  obtain ⟨l⟩ := cs
  simp [Value.cells] at hq
  rw [hq]
set_option maxRecDepth 100000 in
theorem openOlsa {r : Reach} {b0 : Nat} {v : Value} {d : DataW H} {p : List MemPlace} (hv : Value.okWide Tryz.prog W r b0 23 v) (h : DataW.Trod enc Tryz.prog W base spare held 23 v d p) :
    ∃ rs, RowOl W v rs := by
  obtain ⟨a, l, c, rfl⟩ := okWide_slice Tryz.underlying23 hv
  obtain ⟨fuel, hf0⟩ := h
  obtain ⟨v', rs, e, hR⟩ := openOls hf0
  simp [Value.cells] at e
  subst e
  exact ⟨rs, hR⟩
end
end Go.Proofs.YtjmkdpnoihpfoaaGreatDoor
namespace Go.Proofs.YtjmkdpnoihpfoaaGreatDoor
open Go.ChangeShapes Go.WideShapes Go.ChangeAt Go.RowKit Go.Joins Go.Deep
theorem cellsBk : Tryz.prog.cellsOf 25 = 2 := by kernel_rfl
theorem lstBk {α : Type} {l : List α} (h : l.length = 2) : ∃ a0 a1, l = [a0, a1] := by
  match l, h with
  | [a0, a1], _ => exact ⟨a0, a1, rfl⟩
section
variable {H : Type} {enc : TypeId × Value → H} {W : World} {base : Nat} {spare : Nat → Bool} {held : Bool}
theorem openBk {fuel : Nat} {cs : List Value} {x : DataW H × List MemPlace} (h : DataW.trod enc Tryz.prog W base spare held fuel 25 cs = some x) :
    ∃ (r : Bk) (us ul : Value), cs = [us, ul] ∧ RBk W us ul r := by
  obtain ⟨xs, n, rfl, hx, hl, hn, hf⟩ := DataW.trod_struct Tryz.underlying25 h
  rw [cellsBk] at hl
  obtain ⟨c0, c1, rfl⟩ := lstBk hl
  obtain ⟨x0, x1, rfl⟩ := lstBk (show xs.length = 2 from hn)
  obtain ⟨u, ls, k0, r0⟩ := openSts (hf 0 _ rfl)
  obtain ⟨u1, ls1, k1, r1⟩ := openOls (hf 1 _ rfl)
  simp [cellssSt, cellssOl] at k0 k1
  exact ⟨⟨ls, ls1⟩, u, u1, by rw [k0, k1], ⟨r0, r1⟩⟩
set_option maxRecDepth 100000 in
theorem openBka {r : Reach} {b0 : Nat} {v : Value} {d : DataW H} {p : List MemPlace} (hv : Value.okWide Tryz.prog W r b0 25 v) (h : DataW.Trod enc Tryz.prog W base spare held 25 v d p) :
    ∃ (q : Bk) (us ul : Value), v = .agg #[us, ul] ∧ RBk W us ul q := by
  obtain ⟨cs, rfl, hsz⟩ := okWide_struct Tryz.underlying25 hv
  obtain ⟨fuel, hf0⟩ := h
  obtain ⟨q, u, u', hq, hR⟩ := openBk hf0
  refine ⟨q, u, u', ?_, hR⟩
  obtain ⟨l⟩ := cs
  simp [Value.cells] at hq
  rw [hq]
end
end Go.Proofs.YtjmkdpnoihpfoaaGreatDoor
namespace Go.Proofs.YtjmkdpnoihpfoaaGreatDoor
open Go.ChangeShapes Go.WideShapes Go.ChangeAt Go.RowKit
theorem infoTx : (Tryz.prog.info? 9).map (fun i => (i.zero, i.size, i.bytes)) = some (some (.string ⟨#[]⟩), 1, 16) := by kernel_rfl
theorem own0Tx (w : World) {B : Nat} (hB : B ≤ w.heap.size) : (w.alloc (.cells #[] 9)).ownsRow B 9 1 (.slice (some ⟨w.heap.size, 0, none⟩) 0 0) 0 [] :=
  ⟨rfl, .inr ⟨w.heap.size, 0, #[], rfl, hB, World.alloc_heap_new _ _, Nat.le_refl _, Nat.zero_le _, rfl, rfl⟩⟩
/-- An append of one text, at the list of a plain region's operations. -/
theorem wpList_appTx {ops : Array Oper} {rest : List Oper} {o : Oper} {a : Act} {Q : Exit → Act → World → Prop} {W : World} {base c C : Nat} {lv : Value} {ss : List ByteArray} {t : ByteArray} (hgd : o.guard = none) (s x : Operand)
    (ho : o.op = .call { callee := .builtin .append, args := #[s, x], argTypes := #[38, 38] })
    (hs' : a.eval s = lv) (hx : a.eval x = .slice (some ⟨c, 0, none⟩) 1 C) (h : W.ownsRow base 9 1 lv ss.length (ss.map Value.string)) (hg : W.cell? ⟨c, 0, none⟩ = some (.string t)) (hl : ss.length + 1 ≤ 2000000) (hbase : base ≤ W.heap.size)
    (k : ∀ v' w', w'.ownsRow base 9 1 v' (ss.length + 1) ((ss ++ [t]).map Value.string) → W.grownBy w' lv.ownBlock → (∃ A C, v' = .slice A (ss.length + 1) C) → wpList Tryz.prog ops Q rest (a.put o.dst v') w') : wpList Tryz.prog ops Q (o :: rest) a W := by
  obtain ⟨i0, hi, hz0, hz1, hz2⟩ := info_parts infoTx
  refine wpList_append_own W hgd s x 38 ho base 9 i0 (.string ⟨#[]⟩) 1 16 Tryz.underlying38 hi hz0 hz1 hz2 rfl (by decide) lv ss.length (ss.map Value.string) hs' h ⟨c, 0, none⟩ 1 C [.string t] hx rfl (fun j u hu => ?_) (fun u hu => ?_) (by unfold maxLen; omega) (by omega) hbase ?_
  · have hj := (List.getElem?_eq_some_iff.1 hu).1
    have hj1 : j < 1 := hj
    obtain rfl : j = 0 := by omega
    simp only [List.getElem?_cons_zero, Option.some.injEq] at hu
    subst hu
    rw [fl_addr]
    exact hg
  · rw [List.mem_singleton.1 hu]
    rfl
  · intro v' w' hown hgrow hnil
    have hown' : w'.ownsRow base 9 1 v' (ss.length + 1) ((ss ++ [t]).map Value.string) := by
      rw [List.map_append]
      exact hown
    refine k v' w' hown' hgrow ?_
    rcases hown'.2 with ⟨rfl, h0⟩ | ⟨b, cap, cur, rfl, _⟩
    · omega
    · exact ⟨_, _, rfl⟩
theorem appTx_below {w W w' : World} {base : Nat} {lv : Value} {n : Nat} {xs : List Value} (hb : Below base w W) (h : W.ownsRow base 9 1 lv n xs) (hg : W.grownBy w' lv.ownBlock) (hB : base ≤ W.heap.size) : Below base w w' :=
  hb.trans ⟨hg.os, hg.tape, hg.output, hg.size, fun q hq => hg.block q (by omega) (fun e => by have := (h.lt q e.symm).1; omega)⟩
theorem ownTx_down {W : World} {base base' : Nat} {e : TypeId} {size : Nat} {v : Value} {k : Nat} {xs : List Value} (h : W.ownsRow base e size v k xs) (hb : base' ≤ base) : W.ownsRow base' e size v k xs := by
  obtain ⟨h1, h2⟩ := h
  refine ⟨h1, ?_⟩
  rcases h2 with h2 | ⟨g, cap, cur, e1, h3, h4⟩
  · exact .inl h2
  · exact .inr ⟨g, cap, cur, e1, by omega, h4⟩
theorem ownTx_below {W W' : World} {base : Nat} {v : Value} {k : Nat} {xs : List Value} (h : W.ownsRow base 9 1 v k xs) (hb : Below W.heap.size W W') : W'.ownsRow base 9 1 v k xs := by
  refine h.kept (row := none) ⟨hb.os, hb.tape, hb.output, hb.size, fun j hj _ => hb.block j hj⟩ ?_
  rcases h.2 with ⟨e, _⟩ | ⟨g, cap, cur, e, _⟩
  · exact .inl (by rw [e]; rfl)
  · exact .inr (by rw [e]; simp [Value.ownBlock])
end Go.Proofs.YtjmkdpnoihpfoaaGreatDoor
