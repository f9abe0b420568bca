/- Texts of ours put together: OpenS, OpenPI, OpenPcI, SzS, SzL, SzPs, ToS. -/
import Derived.Test.YtkaolpnbddjdpaaGreatDoorG00
import Derived.Deep.Slices
import Derived.SliceStrings
import Derived.Lib.SmallJoins
import Derived.Test.YtkaolpnbddjdpaaGreatDoorG10
import Derived.Test.YtkaolpnbddjdpaaGreatDoorG02
import Derived.Deep.OwnRows
namespace Go.Proofs.YtkaolpnbddjdpaaGreatDoor
open Go.ChangeShapes Go.WideShapes Go.ChangeAt Go.RowKit Go.Joins Go.Deep
theorem cellsString : Tryz.prog.cellsOf 9 = 1 := by kernel_rfl
theorem cellsStrings : Tryz.prog.cellsOf 63 = 1 := by kernel_rfl
theorem addr_plain (b o i : Nat) : (⟨b, o, none⟩ : Addr).add i = ⟨b, o + i, none⟩ := by unfold Addr.add; split <;> simp_all
section
variable {H : Type} {enc : TypeId × Value → H} {W : World} {base : Nat} {spare : Nat → Bool} {held : Bool}
theorem openS {fuel : Nat} {cs : List Value} {x : DataW H × List MemPlace} (h : DataW.trod enc Tryz.prog W base spare held fuel 63 cs = some x) : ∃ v ss, cs = [v] ∧ RowS W v ss := by
  rcases open_strings Tryz.underlying63 Tryz.underlying9 cellsString h with ⟨rfl, _⟩ | ⟨a, len, cap, ss, rfl, _, hl, hm, hlen, _, hcell, hsz⟩
  · exact ⟨_, [], rfl, ⟨⟨_, _, rfl, fun h => absurd rfl h⟩, by simp, fun i s hi => by simp at hi⟩⟩
  · have hlm : len ≤ ss.length := by rw [hlen]; split <;> omega
    have htl : (ss.take len).length = len := by rw [List.length_take]; omega
    unfold maxLen at hm hsz
    refine ⟨_, ss.take len, rfl, ⟨⟨some a, cap, by rw [htl], fun hn => ?_⟩, by omega, fun i s hi => hsz s (List.mem_of_mem_take (List.mem_of_getElem? hi))⟩⟩
    obtain ⟨b, off, spot⟩ := a
    have hpos : 0 < len := by
      rcases Nat.eq_zero_or_pos len with rfl | g
      · exact absurd (by simp) hn
      · exact g
    have h0 := hcell 0 (by omega)
    have hspot : spot = none := by simpa [Addr.add] using World.cell?_spot h0
    subst hspot
    refine ⟨b, off, rfl, fun i s hi => ?_⟩
    have hil := (List.getElem?_eq_some_iff.1 hi).1
    have h1 := hcell i (by omega)
    rw [addr_plain] at h1
    rw [h1]
    rw [List.getElem?_take_of_lt (by omega)] at hi
    rw [List.getD_eq_getElem?_getD, hi, Option.getD_some]
end
end Go.Proofs.YtkaolpnbddjdpaaGreatDoor
namespace Go.Proofs.YtkaolpnbddjdpaaGreatDoor
open Go.ChangeShapes Go.WideShapes Go.ChangeAt Go.RowKit Go.Joins Go.Deep
theorem cellsI64 : Tryz.prog.cellsOf 2 = 1 := by kernel_rfl
theorem cellsLine : Tryz.prog.cellsOf 185 = 5 := by kernel_rfl
theorem cellsLines : Tryz.prog.cellsOf 123 = 1 := by kernel_rfl
theorem cellsPaper : Tryz.prog.cellsOf 125 = 6 := by kernel_rfl
theorem list5 {α : Type} {l : List α} (h : l.length = 5) : ∃ a b c d e, l = [a, b, c, d, e] := by
  match l, h with
  | [a, b, c, d, e], _ => exact ⟨a, b, c, d, e, rfl⟩
theorem list6 {α : Type} {l : List α} (h : l.length = 6) : ∃ a b c d e f, l = [a, b, c, d, e, f] := by
  match l, h with
  | [a, b, c, d, e, f], _ => exact ⟨a, b, c, d, e, f, rfl⟩
theorem wf_bd {n : Int} (h : (Lit.int .i64 n).wf = true) : i64B n := by
  simp only [Lit.wf, Bool.and_eq_true, decide_eq_true_eq] at h
  have e1 : IntKind.i64.min = -9223372036854775808 := by decide
  have e2 : IntKind.i64.max = 9223372036854775807 := by decide
  rw [e1, e2] at h
  exact h
section
variable {H : Type} {enc : TypeId × Value → H} {W : World} {base : Nat} {spare : Nat → Bool} {held : Bool}
theorem openLn {fuel : Nat} {cs : List Value} {x : DataW H × List MemPlace} (h : DataW.trod enc Tryz.prog W base spare held fuel 185 cs = some x) :
    ∃ l : Ln, cs = [.int .i64 l.no, .string l.item, .int .i64 l.qty, .int .i64 l.money, .string l.note] ∧ l.item.size ≤ 9223372036854775807 ∧ l.note.size ≤ 9223372036854775807 ∧ LnI l := by
  obtain ⟨xs, n, rfl, hx, hl, hn, hf⟩ := DataW.trod_struct Tryz.underlying185 h
  rw [cellsLine] at hl
  obtain ⟨c0, c1, c2, c3, c4, rfl⟩ := list5 hl
  obtain ⟨x0, x1, x2, x3, x4, rfl⟩ := list5 (show xs.length = 5 from hn)
  obtain ⟨n0, k0, _, i0⟩ := DataW.trod_int Tryz.underlying2 (hf 0 _ rfl)
  obtain ⟨s1, k1, _, z1⟩ := DataW.trod_string Tryz.underlying9 (hf 1 _ rfl)
  obtain ⟨n2, k2, _, i2⟩ := DataW.trod_int Tryz.underlying2 (hf 2 _ rfl)
  obtain ⟨n3, k3, _, i3⟩ := DataW.trod_int Tryz.underlying2 (hf 3 _ rfl)
  obtain ⟨s4, k4, _, z4⟩ := DataW.trod_string Tryz.underlying9 (hf 4 _ rfl)
  simp [cellsString, cellsI64] at k0 k1 k2 k3 k4
  unfold maxLen at z1 z4
  exact ⟨⟨n0, s1, n2, n3, s4⟩, by rw [k0, k1, k2, k3, k4], z1, z4, wf_bd i0, wf_bd i2, wf_bd i3⟩
theorem openL {fuel : Nat} {cs : List Value} {x : DataW H × List MemPlace} (h : DataW.trod enc Tryz.prog W base spare held fuel 123 cs = some x) : ∃ v ls, cs = [v] ∧ RowL W v ls ∧ ∀ l ∈ ls, LnI l := by
  rcases open_slice Tryz.underlying123 h with ⟨rfl, _⟩ | ⟨a, len, cap, m, n, D, Pl, rfl, _, hl, hm, hmm, _, hx⟩
  · exact ⟨_, [], rfl, ⟨⟨_, _, rfl, fun h => absurd rfl h⟩, by simp, fun i l hi => by simp at hi⟩, fun l hl => by simp at hl⟩
  · have hlm : len ≤ m := by rw [hmm]; split <;> omega
    have inh : Inhabited Ln := ⟨⟨0, ⟨#[]⟩, 0, 0, ⟨#[]⟩⟩⟩
    obtain ⟨f, hf⟩ := choose_lt (α := Ln) (p := fun i l => (W.cell? ((a.add (i * 5)).add 0) = some (.int .i64 l.no) ∧ W.cell? ((a.add (i * 5)).add 1) = some (.string l.item) ∧ W.cell? ((a.add (i * 5)).add 2) = some (.int .i64 l.qty) ∧ W.cell? ((a.add (i * 5)).add 3) = some (.int .i64 l.money) ∧ W.cell? ((a.add (i * 5)).add 4) = some (.string l.note)) ∧ l.item.size ≤ 9223372036854775807 ∧ l.note.size ≤ 9223372036854775807 ∧ LnI l) (n := len) (fun i hi => by
      obtain ⟨cs', h1, h2⟩ := hx i (by omega)
      rw [cellsLine] at h1
      obtain ⟨l, rfl, z1, z2, zI⟩ := openLn h2
      have k := (World.cells?_some h1).2.2
      have k0 := k 0 (by omega)
      have k1 := k 1 (by omega)
      have k2 := k 2 (by omega)
      have k3 := k 3 (by omega)
      have k4 := k 4 (by omega)
      refine ⟨l, ⟨?_, ?_, ?_, ?_, ?_⟩, z1, z2, zI⟩
      · simpa using k0
      · simpa using k1
      · simpa using k2
      · simpa using k3
      · simpa using k4)
    have htl : ((List.range len).map f).length = len := by simp
    unfold maxLen at hm
    have hget : ∀ (i : Nat) (g : Ln), ((List.range len).map f)[i]? = some g → i < len ∧ g = f i := fun i g hi => by
      have hil := (List.getElem?_eq_some_iff.1 hi).1
      rw [htl] at hil
      exact ⟨hil, by simpa [hil] using hi.symm⟩
    refine ⟨_, (List.range len).map f, rfl, ⟨⟨some a, cap, by rw [htl], fun hn => ?_⟩, by omega, fun i g hi => ?_⟩, fun g hg => ?_⟩
    · obtain ⟨b, off, spot⟩ := a
      have hpos : 0 < len := by
        rcases Nat.eq_zero_or_pos len with rfl | g
        · exact absurd (by simp) hn
        · exact g
      have h0 := (hf 0 hpos).1.1
      have hspot : spot = none := by simpa [Addr.add] using World.cell?_spot h0
      subst hspot
      refine ⟨b, off, rfl, fun i g hi => ?_⟩
      obtain ⟨hil, rfl⟩ := hget i g hi
      obtain ⟨⟨k0, k1, k2, k3, k4⟩, _, _, _⟩ := hf i hil
      rw [addr_plain, addr_plain] at k0 k1 k2 k3 k4
      exact ⟨k0, k1, k2, k3, k4⟩
    · obtain ⟨hil, rfl⟩ := hget i g hi
      exact ⟨(hf i hil).2.1, (hf i hil).2.2.1⟩
    · obtain ⟨i, hi⟩ := List.getElem?_of_mem hg
      obtain ⟨hil, rfl⟩ := hget i g hi
      exact (hf i hil).2.2.2
end
end Go.Proofs.YtkaolpnbddjdpaaGreatDoor
namespace Go.Proofs.YtkaolpnbddjdpaaGreatDoor
open Go.ChangeShapes Go.WideShapes Go.ChangeAt Go.RowKit Go.Joins Go.Deep
theorem cellsPapers : Tryz.prog.cellsOf 35 = 1 := by kernel_rfl
theorem cellsParcel : Tryz.prog.cellsOf 37 = 4 := by kernel_rfl
theorem list4p {α : Type} {l : List α} (h : l.length = 4) : ∃ a b c d, l = [a, b, c, d] := by
  match l, h with
  | [a, b, c, d], _ => exact ⟨a, b, c, d, rfl⟩
theorem array4p {α : Type} {cs : Array α} (h : cs.size = 4) : ∃ a b c d, cs = #[a, b, c, d] := by
  obtain ⟨l⟩ := cs
  obtain ⟨a, b, c, d, rfl⟩ := list4p (show l.length = 4 from h)
  exact ⟨a, b, c, d, rfl⟩
section
variable {H : Type} {enc : TypeId × Value → H} {W : World} {base : Nat} {spare : Nat → Bool} {held : Bool}
theorem openP1 {fuel : Nat} {cs : List Value} {x : DataW H × List MemPlace} (h : DataW.trod enc Tryz.prog W base spare held fuel 125 cs = some x) :
    ∃ (q : Pap) (vn vl : Value), cs = [.int .i64 q.kind, .string q.ref, .string q.other, .int .i64 q.day, vn, vl] ∧ PapR W vn vl q ∧ PapI q := by
  obtain ⟨xs, n, rfl, hx, hl, hn, hf⟩ := DataW.trod_struct Tryz.underlying125 h
  rw [cellsPaper] at hl
  obtain ⟨c0, c1, c2, c3, c4, c5, rfl⟩ := list6 hl
  obtain ⟨x0, x1, x2, x3, x4, x5, rfl⟩ := list6 (show xs.length = 6 from hn)
  obtain ⟨n0, k0, _, _⟩ := DataW.trod_int Tryz.underlying2 (hf 0 _ rfl)
  obtain ⟨s1, k1, _, z1⟩ := DataW.trod_string Tryz.underlying9 (hf 1 _ rfl)
  obtain ⟨s2, k2, _, z2⟩ := DataW.trod_string Tryz.underlying9 (hf 2 _ rfl)
  obtain ⟨n3, k3, _, i3⟩ := DataW.trod_int Tryz.underlying2 (hf 3 _ rfl)
  obtain ⟨vn, ns, k4, r4⟩ := openS (hf 4 _ rfl)
  obtain ⟨vl, ls, k5, r5, rI⟩ := openL (hf 5 _ rfl)
  simp [cellsString, cellsI64, cellsStrings, cellsLines] at k0 k1 k2 k3 k4 k5
  unfold maxLen at z1 z2
  exact ⟨⟨n0, s1, s2, n3, ns, ls⟩, vn, vl, by rw [k0, k1, k2, k3, k4, k5], ⟨r4, r5, z1, z2⟩, wf_bd i3, rI⟩
theorem openPs {fuel : Nat} {cs : List Value} {x : DataW H × List MemPlace} (h : DataW.trod enc Tryz.prog W base spare held fuel 35 cs = some x) : ∃ v ps, cs = [v] ∧ RowPs W v ps ∧ ∀ q ∈ ps, PapI q := by
  rcases open_slice Tryz.underlying35 h with ⟨rfl, _⟩ | ⟨a, len, cap, m, n, D, Pl, rfl, _, hl, hm, hmm, _, hx⟩
  · exact ⟨_, [], rfl, ⟨⟨_, _, rfl, fun h => absurd rfl h⟩, by simp⟩, fun q hq => by simp at hq⟩
  · have hlm : len ≤ m := by rw [hmm]; split <;> omega
    have inh : Inhabited Pap := ⟨⟨0, ⟨#[]⟩, ⟨#[]⟩, 0, [], []⟩⟩
    obtain ⟨f, hf⟩ := choose_lt (α := Pap) (p := fun i l => ∃ vn vl, (W.cell? ((a.add (i * 6)).add 0) = some (.int .i64 l.kind) ∧ W.cell? ((a.add (i * 6)).add 1) = some (.string l.ref) ∧ W.cell? ((a.add (i * 6)).add 2) = some (.string l.other) ∧ W.cell? ((a.add (i * 6)).add 3) = some (.int .i64 l.day) ∧ W.cell? ((a.add (i * 6)).add 4) = some vn ∧ W.cell? ((a.add (i * 6)).add 5) = some vl) ∧ PapR W vn vl l ∧ PapI l) (n := len) (fun i hi => by
      obtain ⟨cs', h1, h2⟩ := hx i (by omega)
      rw [cellsPaper] at h1
      obtain ⟨l, vn, vl, rfl, hR, hRI⟩ := openP1 h2
      have k := (World.cells?_some h1).2.2
      have k0 := k 0 (by omega)
      have k1 := k 1 (by omega)
      have k2 := k 2 (by omega)
      have k3 := k 3 (by omega)
      have k4 := k 4 (by omega)
      have k5 := k 5 (by omega)
      refine ⟨l, vn, vl, ⟨?_, ?_, ?_, ?_, ?_, ?_⟩, hR, hRI⟩
      · simpa using k0
      · simpa using k1
      · simpa using k2
      · simpa using k3
      · simpa using k4
      · simpa using k5)
    have htl : ((List.range len).map f).length = len := by simp
    unfold maxLen at hm
    have hget : ∀ (i : Nat) (g : Pap), ((List.range len).map f)[i]? = some g → i < len ∧ g = f i := fun i g hi => by
      have hil := (List.getElem?_eq_some_iff.1 hi).1
      rw [htl] at hil
      exact ⟨hil, by simpa [hil] using hi.symm⟩
    refine ⟨_, (List.range len).map f, rfl, ⟨⟨some a, cap, by rw [htl], fun hn => ?_⟩, by omega⟩, fun g hg => ?_⟩
    · obtain ⟨b, off, spot⟩ := a
      have hpos : 0 < len := by
        rcases Nat.eq_zero_or_pos len with rfl | g
        · exact absurd (by simp) hn
        · exact g
      obtain ⟨_, _, ⟨h0, _⟩, _, _⟩ := hf 0 hpos
      have hspot : spot = none := by simpa [Addr.add] using World.cell?_spot h0
      subst hspot
      refine ⟨b, off, rfl, fun i g hi => ?_⟩
      obtain ⟨hil, rfl⟩ := hget i g hi
      obtain ⟨vn, vl, ⟨k0, k1, k2, k3, k4, k5⟩, hR, _⟩ := hf i hil
      rw [addr_plain, addr_plain] at k0 k1 k2 k3 k4 k5
      exact ⟨vn, vl, ⟨k0, k1, k2, k3, k4, k5⟩, hR⟩
    · obtain ⟨i, hi⟩ := List.getElem?_of_mem hg
      obtain ⟨hil, rfl⟩ := hget i g hi
      obtain ⟨_, _, _, _, hI⟩ := hf i hil
      exact hI
set_option maxRecDepth 100000 in
theorem openPc {r : Reach} {b0 : Nat} {v : Value} {d : DataW H} {p : List MemPlace} (hv : Value.okWide Tryz.prog W r b0 37 v) (h : DataW.Trod enc Tryz.prog W base spare held 37 v d p) :
    ∃ (q : Pcl) (u : Value), v = .agg #[.string q.frm, .string q.to, .int .i64 q.num, u] ∧ PclR W u q ∧ ∀ x ∈ q.papers, PapI x := by
  obtain ⟨cs, rfl, hsz⟩ := okWide_struct Tryz.underlying37 hv
  obtain ⟨c0, c1, c2, c3, rfl⟩ := array4p (hsz.trans cellsParcel)
  obtain ⟨fuel, hf0⟩ := h
  obtain ⟨xs, n, rfl, hx, hl, hn, hf⟩ := DataW.trod_struct Tryz.underlying37 hf0
  obtain ⟨x0, x1, x2, x3, rfl⟩ := list4p (show xs.length = 4 from hn)
  obtain ⟨s0, k0, _, z0⟩ := DataW.trod_string Tryz.underlying9 (hf 0 _ rfl)
  obtain ⟨s1, k1, _, z1⟩ := DataW.trod_string Tryz.underlying9 (hf 1 _ rfl)
  obtain ⟨n2, k2, _, _⟩ := DataW.trod_int Tryz.underlying2 (hf 2 _ rfl)
  obtain ⟨u, ps, k3, r3, rI⟩ := openPs (hf 3 _ rfl)
  simp [Value.cells, cellsString, cellsI64, cellsPapers] at k0 k1 k2 k3
  unfold maxLen at z0 z1
  exact ⟨⟨s0, s1, n2, ps⟩, u, by rw [k0, k1, k2, k3], ⟨r3, z0, z1⟩, rI⟩
end
end Go.Proofs.YtkaolpnbddjdpaaGreatDoor
namespace Go.Proofs.YtkaolpnbddjdpaaGreatDoor
open Go.ChangeShapes Go.WideShapes Go.ChangeAt Go.RowKit
set_option maxHeartbeats 1000000 in
theorem szS_any (v : Value) (ss : List ByteArray) (left : Int) (w : World) (h : RowS w v ss) (hl : 0 ≤ left ∧ left ≤ 1048576) :
    Calls Tryz.prog 113 #[v, .int .i64 left] w fun e w' => ∃ r : Int, e = .returned (.int .i64 r) ∧ (r = -1 ∨ (0 ≤ r ∧ r ≤ left ∧ BdS left.toNat ss)) ∧ Below w.heap.size w w' := by
  have hlen := h.len
  obtain ⟨a, cap, rfl⟩ := h.val
  have H : Hid (RowS w (.slice a ss.length cap) ss) := h
  clear h
  by_cases hn : left < (ss.length : Int)
  · have hn' : left - (ss.length : Int) < 0 := by omega
    go_enter Tryz.func113, Tryz.ntmps113
    go_wp2
    go_ret
    exact ⟨_, rfl, .inl rfl, Below.refl _ _⟩
  · have hn' : ¬ left - (ss.length : Int) < 0 := by omega
    go_enter Tryz.func113, Tryz.ntmps113
    go_wp2
    go_loopw [1, 5] (fun l i wr => ∃ (k : Nat) (r : Int), l = .int .i64 r ∧ i = .int .i64 (k : Int) ∧ k ≤ ss.length ∧ 0 ≤ r ∧ r ≤ left ∧ (∀ (j : Nat) (s : ByteArray), j < k → ss[j]? = some s → s.size ≤ left.toNat) ∧ wr = w) (fun _ i _ => ss.length - (intOf i).toNat)
    case atStart => exact ⟨0, _, rfl, rfl, by omega, by omega, by omega, fun j s h => by omega, rfl⟩
    case round =>
      obtain ⟨k, r, rfl, rfl, hk, hr0, hr1, hA, rfl⟩ := hrel
      have HA : Hid (∀ (j : Nat) (s : ByteArray), j < k → ss[j]? = some s → s.size ≤ left.toNat) := hA
      clear hA
      by_cases hlt : k < ss.length
      · have hlt' : (k : Int) < (ss.length : Int) := by omega
        obtain ⟨b, o, cap', s, e, hs, hc, hsz⟩ := H.out.at hlt
        simp only [Value.slice.injEq, true_and] at e
        obtain ⟨rfl, rfl⟩ := e
        have HS : Hid (ss[k]? = some s) := hs
        clear hs
        by_cases hneg : r - (s.size : Int) < 0
        · go_wp2
          go_ret
          exact ⟨_, rfl, .inl rfl, Below.refl _ _⟩
        · go_wp2
          go_roundw
          case rel =>
            refine ⟨k + 1, _, rfl, by go_num, by omega, by omega, by omega, fun j t hj ht => ?_, trivial⟩
            rcases Nat.lt_or_ge j k with g | g
            · exact HA.out j t g ht
            · obtain rfl : j = k := by omega
              rw [HS.out] at ht
              cases ht
              omega
          case measure => simp [intOf]; omega
      · obtain rfl : k = ss.length := by omega
        go_wp2
        go_ret
        refine ⟨r, rfl, .inr ⟨hr0, hr1, by omega, fun j s hj => HA.out j s ?_ hj⟩, Below.refl _ _⟩
        exact (List.getElem?_eq_some_iff.1 hj).1
theorem BdS.mono {m n : Nat} {ss : List ByteArray} (h : BdS m ss) (hmn : m ≤ n) : BdS n ss := ⟨Nat.le_trans h.1 hmn, fun i s hi => Nat.le_trans (h.2 i s hi) hmn⟩
end Go.Proofs.YtkaolpnbddjdpaaGreatDoor
namespace Go.Proofs.YtkaolpnbddjdpaaGreatDoor
open Go.ChangeShapes Go.WideShapes Go.ChangeAt Go.RowKit
set_option maxHeartbeats 1000000 in
theorem szLn_any (l : Ln) (left : Int) (w : World) (hz : l.item.size ≤ 9223372036854775807 ∧ l.note.size ≤ 9223372036854775807) (hl : 0 ≤ left ∧ left ≤ 1048576) :
    Calls Tryz.prog 149 #[.agg #[.int .i64 l.no, .string l.item, .int .i64 l.qty, .int .i64 l.money, .string l.note], .int .i64 left] w fun e w' => ∃ r : Int, e = .returned (.int .i64 r) ∧ (r = -1 ∨ (0 ≤ r ∧ r ≤ left ∧ l.item.size ≤ left.toNat ∧ l.note.size ≤ left.toNat)) ∧ Below w.heap.size w w' := by
  obtain ⟨no, item, qty, money, note⟩ := l
  obtain ⟨hz1, hz2⟩ := hz
  dsimp only at hz1 hz2 ⊢
  by_cases h1 : left - (item.size : Int) < 0
  · go_enter Tryz.func149, Tryz.ntmps149
    go_wp2
    go_ret
    exact ⟨_, rfl, .inl rfl, (Below.refl _ _).alloc (Nat.le_refl _) _⟩
  · by_cases h2 : left - (item.size : Int) - (note.size : Int) < 0
    · go_enter Tryz.func149, Tryz.ntmps149
      go_wp2
      go_ret
      exact ⟨_, rfl, .inl rfl, (Below.refl _ _).alloc (Nat.le_refl _) _⟩
    · go_enter Tryz.func149, Tryz.ntmps149
      go_wp2
      go_ret
      exact ⟨_, rfl, .inr ⟨by omega, by omega, by omega, by omega⟩, (Below.refl _ _).alloc (Nat.le_refl _) _⟩
set_option maxHeartbeats 1000000 in
theorem szL_any (v : Value) (ls : List Ln) (left : Int) (w : World) (h : RowL w v ls) (hl : 0 ≤ left ∧ left ≤ 1048576) :
    Calls Tryz.prog 114 #[v, .int .i64 left] w fun e w' => ∃ r : Int, e = .returned (.int .i64 r) ∧ (r = -1 ∨ (0 ≤ r ∧ r ≤ left ∧ BdL left.toNat ls)) ∧ Below w.heap.size w w' := by
  have hlen := h.len
  obtain ⟨a, cap, rfl⟩ := h.val
  have H : Hid (RowL w (.slice a ls.length cap) ls) := h
  clear h
  by_cases hn : left < (ls.length : Int)
  · have hn' : left - (ls.length : Int) < 0 := by omega
    go_enter Tryz.func114, Tryz.ntmps114
    go_wp2
    go_ret
    exact ⟨_, rfl, .inl rfl, Below.refl _ _⟩
  · have hn' : ¬ left - (ls.length : Int) < 0 := by omega
    go_enter Tryz.func114, Tryz.ntmps114
    go_wp2
    go_loopw [1, 5] (fun l i wr => ∃ (k : Nat) (r : Int), l = .int .i64 r ∧ i = .int .i64 (k : Int) ∧ k ≤ ls.length ∧ 0 ≤ r ∧ r ≤ left ∧ (∀ (j : Nat) (g : Ln), j < k → ls[j]? = some g → g.item.size ≤ left.toNat ∧ g.note.size ≤ left.toNat) ∧ Below w.heap.size w wr) (fun _ i _ => ls.length - (intOf i).toNat)
    case atStart => exact ⟨0, _, rfl, rfl, by omega, by omega, by omega, fun j s h => by omega, Below.refl _ _⟩
    case round =>
      obtain ⟨k, r, rfl, rfl, hk, hr0, hr1, hA, hb⟩ := hrel
      have HA : Hid ((∀ (j : Nat) (g : Ln), j < k → ls[j]? = some g → g.item.size ≤ left.toNat ∧ g.note.size ≤ left.toNat) ∧ Below w.heap.size w wr) := ⟨hA, hb⟩
      clear hA hb
      by_cases hlt : k < ls.length
      · have hlt' : (k : Int) < (ls.length : Int) := by omega
        obtain ⟨b, o, cap', g, e, hs, ⟨q0, q1, q2, q3, q4⟩, hz⟩ := (H.out.below HA.out.2).at hlt
        simp only [Value.slice.injEq, true_and] at e
        obtain ⟨rfl, rfl⟩ := e
        have HS : Hid (ls[k]? = some g) := hs
        clear hs
        go_wp2_with fail
        refine (szLn_any g r _ hz ⟨hr0, by omega⟩).mono ?_
        rintro e w2 ⟨r2, rfl, hr2, hb2⟩
        have HB : Hid (Below w.heap.size w w2) := HA.out.2.trans (hb2.mono HA.out.2.size)
        clear hb2
        rcases hr2 with rfl | ⟨g0, g1, g2, g3⟩
        · go_wp2
          go_ret
          exact ⟨_, rfl, .inl rfl, HB.out⟩
        · have H2 : Hid (g.item.size ≤ r.toNat ∧ g.note.size ≤ r.toNat) := ⟨g2, g3⟩
          have g0' : ¬ r2 < 0 := by omega
          clear g2 g3
          go_wp2
          go_roundw
          case rel =>
            refine ⟨k + 1, _, rfl, by go_num, by omega, by omega, by omega, fun j t hj ht => ?_, HB.out⟩
            rcases Nat.lt_or_ge j k with q | q
            · exact HA.out.1 j t q ht
            · obtain rfl : j = k := by omega
              rw [HS.out] at ht
              cases ht
              have := H2.out
              exact ⟨by omega, by omega⟩
          case measure => simp [intOf]; omega
      · obtain rfl : k = ls.length := by omega
        go_wp2
        go_ret
        refine ⟨r, rfl, .inr ⟨hr0, hr1, by omega, fun j s hj => HA.out.1 j s ?_ hj⟩, HA.out.2⟩
        exact (List.getElem?_eq_some_iff.1 hj).1
set_option maxHeartbeats 1000000 in
theorem szP_any (p : Pap) (vn vl : Value) (left : Int) (w : World) (h : PapR w vn vl p) (hl : 0 ≤ left ∧ left ≤ 1048576) :
    Calls Tryz.prog 76 #[.agg #[.int .i64 p.kind, .string p.ref, .string p.other, .int .i64 p.day, vn, vl], .int .i64 left] w fun e w' => ∃ r : Int, e = .returned (.int .i64 r) ∧ (r = -1 ∨ (0 ≤ r ∧ r ≤ left ∧ BdP left.toNat p)) ∧ Below w.heap.size w w' := by
  obtain ⟨kind, ref, other, day, notes, lines⟩ := p
  have hz1 : ref.size ≤ 9223372036854775807 := h.rz
  have hz2 : other.size ≤ 9223372036854775807 := h.oz
  obtain ⟨a, cap, rfl⟩ := h.ns.val
  obtain ⟨a', cap', rfl⟩ := h.ls.val
  dsimp only at h ⊢
  have b0 : Below w.heap.size w (w.alloc (.cells #[.int .i64 kind, .string ref, .string other, .int .i64 day, .slice a notes.length cap, .slice a' lines.length cap'] 125)) := (Below.refl _ _).alloc (Nat.le_refl _) _
  have H : Hid (PapR (w.alloc (.cells #[.int .i64 kind, .string ref, .string other, .int .i64 day, .slice a notes.length cap, .slice a' lines.length cap'] 125)) (.slice a notes.length cap) (.slice a' lines.length cap') ⟨kind, ref, other, day, notes, lines⟩) := h.below b0
  clear h
  by_cases h1 : left - (ref.size : Int) < 0
  · go_enter Tryz.func76, Tryz.ntmps76
    go_wp2
    go_ret
    exact ⟨_, rfl, .inl rfl, b0⟩
  · by_cases h2 : left - (ref.size : Int) - (other.size : Int) < 0
    · go_enter Tryz.func76, Tryz.ntmps76
      go_wp2
      go_ret
      exact ⟨_, rfl, .inl rfl, b0⟩
    · go_enter Tryz.func76, Tryz.ntmps76
      go_wp2_with fail
      refine (szS_any _ notes (left - (ref.size : Int) - (other.size : Int)) _ H.out.ns ⟨by omega, by omega⟩).mono ?_
      rintro e w1 ⟨r, rfl, hr, hb⟩
      have HB : Hid (Below w.heap.size w w1 ∧ RowL w1 (.slice a' lines.length cap') lines) := ⟨b0.trans (hb.mono (by simp)), H.out.ls.below hb⟩
      have c5 : w1.cell? ⟨w.heap.size, 5, none⟩ = some (.slice a' lines.length cap') := (hb.cell (p := ⟨w.heap.size, 5, none⟩) (by simp)).trans (by simp [go_sem])
      clear hb
      rcases hr with rfl | ⟨g0, g1, g2⟩
      · go_wp2
        go_ret
        exact ⟨_, rfl, .inl rfl, HB.out.1⟩
      · have g0' : ¬ r < 0 := by omega
        have H2 : Hid (BdS (left - (ref.size : Int) - (other.size : Int)).toNat notes) := g2
        clear g2
        go_wp2_with fail
        refine (szL_any _ lines r _ HB.out.2 ⟨g0, by omega⟩).mono ?_
        rintro e w2 ⟨r2, rfl, hr2, hb2⟩
        have HC : Hid (Below w.heap.size w w2) := HB.out.1.trans (hb2.mono HB.out.1.size)
        clear hb2
        rcases hr2 with rfl | ⟨k0, k1, k2⟩
        · go_wp2
          go_ret
          exact ⟨_, rfl, .inl rfl, HC.out⟩
        · have k0' : ¬ r2 < 0 := by omega
          have H3 : Hid (BdL r.toNat lines) := k2
          clear k2
          go_wp2
          go_ret
          exact ⟨_, rfl, .inr ⟨by omega, by omega, show ref.size ≤ left.toNat by omega, show other.size ≤ left.toNat by omega, H2.out.mono (by omega), H3.out.mono (by omega)⟩, HC.out⟩
end Go.Proofs.YtkaolpnbddjdpaaGreatDoor
namespace Go.Proofs.YtkaolpnbddjdpaaGreatDoor
open Go.ChangeShapes Go.WideShapes Go.ChangeAt Go.RowKit
set_option maxHeartbeats 1000000 in
theorem szPs_any (v : Value) (ps : List Pap) (left : Int) (w : World) (h : RowPs w v ps) (hl : 0 ≤ left ∧ left ≤ 1048576) :
    Calls Tryz.prog 40 #[v, .int .i64 left] w fun e w' => ∃ r : Int, e = .returned (.int .i64 r) ∧ (r = -1 ∨ (0 ≤ r ∧ r ≤ left ∧ BdPs left.toNat ps)) ∧ Below w.heap.size w w' := by
  have hlen := h.len
  obtain ⟨a, cap, rfl⟩ := h.val
  have H : Hid (RowPs w (.slice a ps.length cap) ps) := h
  clear h
  by_cases hn : left < (ps.length : Int)
  · have hn' : left - (ps.length : Int) < 0 := by omega
    go_enter Tryz.func40, Tryz.ntmps40
    go_wp2
    go_ret
    exact ⟨_, rfl, .inl rfl, Below.refl _ _⟩
  · have hn' : ¬ left - (ps.length : Int) < 0 := by omega
    go_enter Tryz.func40, Tryz.ntmps40
    go_wp2
    go_loopw [1, 5] (fun l i wr => ∃ (k : Nat) (r : Int), l = .int .i64 r ∧ i = .int .i64 (k : Int) ∧ k ≤ ps.length ∧ 0 ≤ r ∧ r ≤ left ∧ (∀ (j : Nat) (g : Pap), j < k → ps[j]? = some g → BdP left.toNat g) ∧ Below w.heap.size w wr) (fun _ i _ => ps.length - (intOf i).toNat)
    case atStart => exact ⟨0, _, rfl, rfl, by omega, by omega, by omega, fun j s h => by omega, Below.refl _ _⟩
    case round =>
      obtain ⟨k, r, rfl, rfl, hk, hr0, hr1, hA, hb⟩ := hrel
      have HA : Hid ((∀ (j : Nat) (g : Pap), j < k → ps[j]? = some g → BdP left.toNat g) ∧ Below w.heap.size w wr) := ⟨hA, hb⟩
      clear hA hb
      by_cases hlt : k < ps.length
      · have hlt' : (k : Int) < (ps.length : Int) := by omega
        obtain ⟨b, o, cap', g, vn, vl, e, hs, ⟨q0, q1, q2, q3, q4, q5⟩, hR⟩ := (H.out.below HA.out.2).at hlt
        simp only [Value.slice.injEq, true_and] at e
        obtain ⟨rfl, rfl⟩ := e
        obtain ⟨n0, c0, rfl⟩ := hR.ns.val
        obtain ⟨n1, c1, rfl⟩ := hR.ls.val
        have HS : Hid (ps[k]? = some g ∧ PapR wr (.slice n0 g.notes.length c0) (.slice n1 g.lines.length c1) g) := ⟨hs, hR⟩
        clear hs hR
        go_wp2_with fail
        refine (szP_any g _ _ r _ HS.out.2 ⟨hr0, by omega⟩).mono ?_
        rintro e w2 ⟨r2, rfl, hr2, hb2⟩
        have HB : Hid (Below w.heap.size w w2) := HA.out.2.trans (hb2.mono HA.out.2.size)
        clear hb2
        rcases hr2 with rfl | ⟨g0, g1, g2⟩
        · go_wp2
          go_ret
          exact ⟨_, rfl, .inl rfl, HB.out⟩
        · have H2 : Hid (BdP r.toNat g) := g2
          have g0' : ¬ r2 < 0 := by omega
          clear g2
          go_wp2
          go_roundw
          case rel =>
            refine ⟨k + 1, _, rfl, by go_num, by omega, by omega, by omega, fun j t hj ht => ?_, HB.out⟩
            rcases Nat.lt_or_ge j k with q | q
            · exact HA.out.1 j t q ht
            · obtain rfl : j = k := by omega
              rw [HS.out.1] at ht
              cases ht
              exact H2.out.mono (by omega)
          case measure => simp [intOf]; omega
      · obtain rfl : k = ps.length := by omega
        go_wp2
        go_ret
        refine ⟨r, rfl, .inr ⟨hr0, hr1, by omega, fun j s hj => HA.out.1 j s ?_ hj⟩, HA.out.2⟩
        exact (List.getElem?_eq_some_iff.1 hj).1
set_option maxHeartbeats 1000000 in
theorem szPc_any (p : Pcl) (v : Value) (left : Int) (w : World) (h : PclR w v p) (hl : 0 ≤ left ∧ left ≤ 1048576) :
    Calls Tryz.prog 13 #[.agg #[.string p.frm, .string p.to, .int .i64 p.num, v], .int .i64 left] w fun e w' => ∃ r : Int, e = .returned (.int .i64 r) ∧ (r = -1 ∨ (0 ≤ r ∧ r ≤ left ∧ BdPc left.toNat p)) ∧ Below w.heap.size w w' := by
  obtain ⟨frm, tto, num, ps⟩ := p
  have hz1 : frm.size ≤ 9223372036854775807 := h.fz
  have hz2 : tto.size ≤ 9223372036854775807 := h.tz
  obtain ⟨a, cap, rfl⟩ := h.ps.val
  dsimp only at h ⊢
  have b0 : Below w.heap.size w (w.alloc (.cells #[.string frm, .string tto, .int .i64 num, .slice a ps.length cap] 37)) := (Below.refl _ _).alloc (Nat.le_refl _) _
  have H : Hid (RowPs (w.alloc (.cells #[.string frm, .string tto, .int .i64 num, .slice a ps.length cap] 37)) (.slice a ps.length cap) ps) := h.ps.below b0
  clear h
  by_cases h1 : left - (frm.size : Int) < 0
  · go_enter Tryz.func13, Tryz.ntmps13
    go_wp2
    go_ret
    exact ⟨_, rfl, .inl rfl, b0⟩
  · by_cases h2 : left - (frm.size : Int) - (tto.size : Int) < 0
    · go_enter Tryz.func13, Tryz.ntmps13
      go_wp2
      go_ret
      exact ⟨_, rfl, .inl rfl, b0⟩
    · go_enter Tryz.func13, Tryz.ntmps13
      go_wp2_with fail
      refine (szPs_any _ ps (left - (frm.size : Int) - (tto.size : Int)) _ H.out ⟨by omega, by omega⟩).mono ?_
      rintro e w1 ⟨r, rfl, hr, hb⟩
      have HB : Hid (Below w.heap.size w w1) := b0.trans (hb.mono (by simp))
      clear hb
      rcases hr with rfl | ⟨g0, g1, g2⟩
      · go_wp2
        go_ret
        exact ⟨_, rfl, .inl rfl, HB.out⟩
      · have g0' : ¬ r < 0 := by omega
        have H2 : Hid (BdPs (left - (frm.size : Int) - (tto.size : Int)).toNat ps) := g2
        clear g2
        go_wp2
        go_ret
        exact ⟨_, rfl, .inr ⟨by omega, by omega, show frm.size ≤ left.toNat by omega, show tto.size ≤ left.toNat by omega, H2.out.mono (by omega)⟩, HB.out⟩
end Go.Proofs.YtkaolpnbddjdpaaGreatDoor
namespace Go.Proofs.YtkaolpnbddjdpaaGreatDoor
open Go.ChangeShapes Go.WideShapes Go.ChangeAt Go.RowKit
theorem infoS : (Tryz.prog.info? 9).map (fun i => (i.zero, i.size, i.bytes)) = some (some (.string ⟨#[]⟩), 1, 16) := by kernel_rfl
/-- A list of texts in a block of its own, not below B. -/
def OwnS (B : Nat) (W : World) (v : Value) (ss : List ByteArray) : Prop := ∃ b, B ≤ b ∧ v = .slice (some ⟨b, 0, none⟩) ss.length ss.length ∧ W.rowIs b 9 ss.length (fun i => .string (ss[i]?.getD ⟨#[]⟩))
theorem OwnS.below {B : Nat} {W W' : World} {v : Value} {ss : List ByteArray} (h : OwnS B W v ss) (hb : Below W.heap.size W W') : OwnS B W' v ss := by
  obtain ⟨b, h1, h2, h3⟩ := h
  exact ⟨b, h1, h2, h3.of_block (hb.block b h3.lt)⟩
theorem OwnS.set {B : Nat} {W : World} {v : Value} {ss : List ByteArray} (h : OwnS (B + 1) W v ss) (i : Nat) (x : Value) : OwnS (B + 1) (W.setCell ⟨B, i, none⟩ x) v ss := by
  obtain ⟨b, h1, h2, h3⟩ := h
  exact ⟨b, h1, h2, h3.setOther (show b ≠ B by omega) x⟩
theorem OwnS.mono {B C : Nat} {W : World} {v : Value} {ss : List ByteArray} (h : OwnS B W v ss) (hC : C ≤ B) : OwnS C W v ss := by
  obtain ⟨b, h1, h2, h3⟩ := h
  exact ⟨b, by omega, h2, h3⟩
theorem OwnS.row {B : Nat} {W : World} {v : Value} {ss : List ByteArray} (h : OwnS B W v ss) (hl : ss.length ≤ 9223372036854775807) (hs : ∀ (i : Nat) (s : ByteArray), ss[i]? = some s → s.size ≤ 9223372036854775807) : RowS W v ss := by
  obtain ⟨b, h1, h2, h3⟩ := h
  refine ⟨⟨_, _, h2, fun _ => ⟨b, 0, rfl, fun i s hi => ?_⟩⟩, hl, hs⟩
  have := h3.cell (List.getElem?_eq_some_iff.1 hi).1
  rw [hi, Option.getD_some] at this
  rwa [Nat.zero_add]
set_option maxHeartbeats 1000000 in
theorem toS_any (v : Value) (ss : List ByteArray) (w : World) (h : RowS w v ss) (hn : ss.length ≤ 1048576) :
    Calls Tryz.prog 120 #[v] w fun e w' => ∃ v', e = .returned v' ∧ OwnS w.heap.size w' v' ss ∧ Below w.heap.size w w' := by
  have hlen := h.len
  obtain ⟨a, cap, rfl⟩ := h.val
  have H : Hid (RowS w (.slice a ss.length cap) ss) := h
  clear h
  have hmk := run_make_row' (P := Tryz.prog) 63 9 (.string ⟨#[]⟩) 16 Tryz.underlying63 infoS rfl .i64 .i64 ss.length (by omega) (by omega)
  go_enter Tryz.func120, Tryz.ntmps120
  go_wp2
  go_loopw [4] (fun i wr => ∃ k : Nat, i = .int .i64 (k : Int) ∧ k ≤ ss.length ∧ wr.rowIs w.heap.size 9 ss.length (fun j => if j < k then .string (ss[j]?.getD ⟨#[]⟩) else .string ⟨#[]⟩) ∧ Below w.heap.size w wr) (fun i _ => ss.length - (intOf i).toNat)
  case atStart => exact ⟨0, rfl, by omega, (World.rowIs_made w (.string ⟨#[]⟩) ss.length 9).congr (fun i _ => by simp), (Below.refl _ _).alloc (Nat.le_refl _) _⟩
  case round =>
    obtain ⟨k, rfl, hk, hR, hb⟩ := hrel
    by_cases hlt : k < ss.length
    · have hlt' : (k : Int) < (ss.length : Int) := by omega
      obtain ⟨b, o, cap', s, e, hs, hc, hsz⟩ := (H.out.below hb).at hlt
      simp only [Value.slice.injEq, true_and] at e
      obtain ⟨rfl, rfl⟩ := e
      have hfz := hR.frozen
      have hck := hR.cell hlt
      simp only [Nat.lt_irrefl, if_false] at hck
      have HS : Hid (ss[k]? = some s ∧ wr.rowIs w.heap.size 9 ss.length (fun j => if j < k then .string (ss[j]?.getD ⟨#[]⟩) else .string ⟨#[]⟩) ∧ Below w.heap.size w wr) := ⟨hs, hR, hb⟩
      clear hs hR hb
      go_wp2
      go_roundw
      case rel =>
        refine ⟨k + 1, by go_num, by omega, (HS.out.2.1.set k (.string s)).congr (fun j hj => ?_), HS.out.2.2.setCell (Nat.le_refl _) _⟩
        by_cases e : j = k
        · subst e
          rw [if_pos rfl, if_pos (by omega), HS.out.1, Option.getD_some]
        · rw [if_neg e]
          by_cases g : j < k
          · rw [if_pos g, if_pos (by omega)]
          · rw [if_neg g, if_neg (by omega)]
      case measure => simp [intOf]; omega
    · obtain rfl : k = ss.length := by omega
      have HS : Hid (wr.rowIs w.heap.size 9 ss.length (fun j => if j < ss.length then .string (ss[j]?.getD ⟨#[]⟩) else .string ⟨#[]⟩) ∧ Below w.heap.size w wr) := ⟨hR, hb⟩
      clear hR hb
      go_wp2
      go_ret
      exact ⟨_, rfl, ⟨w.heap.size, Nat.le_refl _, rfl, HS.out.1.congr (fun j hj => by rw [if_pos hj])⟩, HS.out.2⟩
theorem three (w : World) (o0 o1 o2 : Obj) : (((w.alloc o0).alloc o1).alloc o2).heap[w.heap.size]? = some o0 ∧ (((w.alloc o0).alloc o1).alloc o2).heap[w.heap.size + 1]? = some o1 ∧ (((w.alloc o0).alloc o1).alloc o2).heap[w.heap.size + 1 + 1]? = some o2 := by
  have e : (((w.alloc o0).alloc o1).alloc o2).heap = ((w.heap.push o0).push o1).push o2 := rfl
  rw [e]
  simp only [Array.getElem?_push, Array.size_push]
  refine ⟨?_, ?_, ?_⟩
  · rw [if_neg (by omega), if_neg (by omega), if_pos trivial]
  · rw [if_neg (by omega), if_pos trivial]
  · rw [if_pos trivial]
end Go.Proofs.YtkaolpnbddjdpaaGreatDoor
