/- Texts of ours put together: OpenDf, OpenOu, OpenGt, MaSn, Conv1, MkT, MkPtP, KpP. -/
import Derived.Test.YtkgkahlhekecmaaGreatG09
import Derived.Test.YtkgkahlhekecmaaGreatG01
import Derived.Test.YtkgkahlhekecmaaGreatG00
import Derived.Test.YtkgkahlhekecmaaGreatRows
import Derived.WalkKit
import Derived.ProofKit
import Derived.OpenShut
import Derived.ShutString
import Derived.ChangeOld
import Derived.Below
import Derived.WalkLawsBesides
import Derived.WalkSpells
import Derived.Deep.Light
import Derived.Handy
import Derived.Laws.BytesArg
namespace Go.Proofs.YtkgkahlhekecmaaGreat
open Go.ChangeShapes Go.WideShapes Go.ChangeAt Go.RowKit Go.Joins Go.Deep
theorem cellsDf : Tryz.prog.cellsOf 95 = 6 := by kernel_rfl
theorem cellssDf : Tryz.prog.cellsOf 28 = 1 := by kernel_rfl
theorem lstDf {α : Type} {l : List α} (h : l.length = 6) : ∃ a0 a1 a2 a3 a4 a5, l = [a0, a1, a2, a3, a4, a5] := by
  match l, h with
  | [a0, a1, a2, a3, a4, a5], _ => exact ⟨a0, a1, a2, a3, a4, a5, rfl⟩
section
variable {H : Type} {enc : TypeId × Value → H} {W : World} {base : Nat} {spare : Nat → Bool} {held : Bool}
theorem openDf {fuel : Nat} {cs : List Value} {x : DataW H × List MemPlace} (h : DataW.trod enc Tryz.prog W base spare held fuel 95 cs = some x) :
    ∃ r : Dff, cs = [.int .i64 r.kind, .string r.partner, .string r.ref, .int .i64 r.no, .string r.item, .int .i64 r.qty] ∧ r.partner.size ≤ 9223372036854775807 ∧ r.ref.size ≤ 9223372036854775807 ∧ r.item.size ≤ 9223372036854775807 := by
  obtain ⟨xs, n, rfl, hx, hl, hn, hf⟩ := DataW.trod_struct Tryz.underlying95 h
  rw [cellsDf] at hl
  obtain ⟨c0, c1, c2, c3, c4, c5, rfl⟩ := lstDf hl
  obtain ⟨x0, x1, x2, x3, x4, x5, rfl⟩ := lstDf (show xs.length = 6 from hn)
  obtain ⟨n0, k0, _, _⟩ := DataW.trod_int Tryz.underlying2 (hf 0 _ rfl)
  obtain ⟨n1, k1, _, z1⟩ := DataW.trod_string Tryz.underlying9 (hf 1 _ rfl)
  obtain ⟨n2, k2, _, z2⟩ := DataW.trod_string Tryz.underlying9 (hf 2 _ rfl)
  obtain ⟨n3, k3, _, _⟩ := DataW.trod_int Tryz.underlying2 (hf 3 _ rfl)
  obtain ⟨n4, k4, _, z4⟩ := DataW.trod_string Tryz.underlying9 (hf 4 _ rfl)
  obtain ⟨n5, k5, _, _⟩ := DataW.trod_int Tryz.underlying2 (hf 5 _ rfl)
  simp [cellsI64, cellsString] at k0 k1 k2 k3 k4 k5
  unfold maxLen at z1 z2 z4
  exact ⟨⟨n0, n1, n2, n3, n4, n5⟩, by rw [k0, k1, k2, k3, k4, k5], z1, z2, z4⟩
theorem openDfs {fuel : Nat} {cs : List Value} {x : DataW H × List MemPlace} (h : DataW.trod enc Tryz.prog W base spare held fuel 28 cs = some x) : ∃ v rs, cs = [v] ∧ RowDf W v rs := by
  rcases open_slice Tryz.underlying28 h with ⟨rfl, _⟩ | ⟨a, len, cap, m, n, D, Pl, rfl, _, hl, hm, hmm, _, hx⟩
  · exact ⟨_, [], rfl, RowDf.nil W⟩
  · have hlm : len ≤ m := by rw [hmm]; split <;> omega
    have inh : Inhabited Dff := ⟨⟨0, ⟨#[]⟩, ⟨#[]⟩, 0, ⟨#[]⟩, 0⟩⟩
    obtain ⟨f, hf⟩ := choose_lt (α := Dff) (p := fun i l => (W.cell? ((a.add (i * 6)).add 0) = some (.int .i64 l.kind) ∧ W.cell? ((a.add (i * 6)).add 1) = some (.string l.partner) ∧ W.cell? ((a.add (i * 6)).add 2) = some (.string l.ref) ∧ W.cell? ((a.add (i * 6)).add 3) = some (.int .i64 l.no) ∧ W.cell? ((a.add (i * 6)).add 4) = some (.string l.item) ∧ W.cell? ((a.add (i * 6)).add 5) = some (.int .i64 l.qty)) ∧ l.partner.size ≤ 9223372036854775807 ∧ l.ref.size ≤ 9223372036854775807 ∧ l.item.size ≤ 9223372036854775807) (n := len) (fun i hi => by
      obtain ⟨cs', h1, h2⟩ := hx i (by omega)
      rw [cellsDf] at h1
      obtain ⟨l, rfl, hz⟩ := openDf h2
      have k := (World.cells?_some h1).2.2
      have k0 := k 0 (by omega)
      have k1 := k 1 (by omega)
      have k2 := k 2 (by omega)
      have k3 := k 3 (by omega)
      have k4 := k 4 (by omega)
      have k5 := k 5 (by omega)
      refine ⟨l, ⟨⟨?_, ?_, ?_, ?_, ?_, ?_⟩, hz⟩⟩
      · simpa using k0
      · simpa using k1
      · simpa using k2
      · simpa using k3
      · simpa using k4
      · simpa using k5)
    have htl : ((List.range len).map f).length = len := by simp
    unfold maxLen at hm
    have hget : ∀ (i : Nat) (g : Dff), ((List.range len).map f)[i]? = some g → i < len ∧ g = f i := fun i g hi => by
      have hil := (List.getElem?_eq_some_iff.1 hi).1
      rw [htl] at hil
      exact ⟨hil, by simpa [hil] using hi.symm⟩
    refine ⟨_, (List.range len).map f, rfl, ⟨⟨some a, cap, by rw [htl], fun hn => ?_⟩, by omega, fun i g hi => by obtain ⟨hil, rfl⟩ := hget i g hi; exact (hf i hil).2⟩⟩
    obtain ⟨b, off, spot⟩ := a
    have hpos : 0 < len := by
      rcases Nat.eq_zero_or_pos len with rfl | g
      · exact absurd (by simp) hn
      · exact g
    have h0 := (hf 0 hpos).1.1
    have hspot : spot = none := by simpa [Addr.add] using World.cell?_spot h0
    subst hspot
    refine ⟨b, off, rfl, fun i g hi => ?_⟩
    obtain ⟨hil, rfl⟩ := hget i g hi
    obtain ⟨⟨k0, k1, k2, k3, k4, k5⟩, _⟩ := hf i hil
    rw [fl_addr, fl_addr] at k0 k1 k2 k3 k4 k5
    exact ⟨k0, k1, k2, k3, k4, k5⟩
set_option maxRecDepth 100000 in
theorem openDfa {r : Reach} {b0 : Nat} {v : Value} {d : DataW H} {p : List MemPlace} (hv : Value.okWide Tryz.prog W r b0 95 v) (h : DataW.Trod enc Tryz.prog W base spare held 95 v d p) :
    ∃ q : Dff, v = .agg #[.int .i64 q.kind, .string q.partner, .string q.ref, .int .i64 q.no, .string q.item, .int .i64 q.qty] ∧ q.partner.size ≤ 9223372036854775807 ∧ q.ref.size ≤ 9223372036854775807 ∧ q.item.size ≤ 9223372036854775807 := by
  obtain ⟨cs, rfl, hsz⟩ := okWide_struct Tryz.underlying95 hv
  obtain ⟨fuel, hf0⟩ := h
  obtain ⟨q, hq, hz⟩ := openDf hf0
  refine ⟨q, ?_, hz⟩
  obtain ⟨l⟩ := cs
  simp [Value.cells] at hq
  rw [hq]
set_option maxRecDepth 100000 in
theorem openDfsa {r : Reach} {b0 : Nat} {v : Value} {d : DataW H} {p : List MemPlace} (hv : Value.okWide Tryz.prog W r b0 28 v) (h : DataW.Trod enc Tryz.prog W base spare held 28 v d p) :
    ∃ rs, RowDf W v rs := by
  obtain ⟨a, l, c, rfl⟩ := okWide_slice Tryz.underlying28 hv
  obtain ⟨fuel, hf0⟩ := h
  obtain ⟨v', rs, e, hR⟩ := openDfs hf0
  simp [Value.cells] at e
  subst e
  exact ⟨rs, hR⟩
end
end Go.Proofs.YtkgkahlhekecmaaGreat
namespace Go.Proofs.YtkgkahlhekecmaaGreat
open Go.ChangeShapes Go.WideShapes Go.ChangeAt Go.RowKit Go.Joins Go.Deep
theorem cellsOu : Tryz.prog.cellsOf 98 = 5 := by kernel_rfl
theorem cellssOu : Tryz.prog.cellsOf 29 = 1 := by kernel_rfl
theorem lstOu {α : Type} {l : List α} (h : l.length = 5) : ∃ a0 a1 a2 a3 a4, l = [a0, a1, a2, a3, a4] := by
  match l, h with
  | [a0, a1, a2, a3, a4], _ => exact ⟨a0, a1, a2, a3, a4, rfl⟩
section
variable {H : Type} {enc : TypeId × Value → H} {W : World} {base : Nat} {spare : Nat → Bool} {held : Bool}
theorem openOu {fuel : Nat} {cs : List Value} {x : DataW H × List MemPlace} (h : DataW.trod enc Tryz.prog W base spare held fuel 98 cs = some x) :
    ∃ r : OutR, cs = [.string r.partner, .int .i64 r.number, .string r.text, .int .i64 r.tries, .int .i64 r.due] ∧ r.partner.size ≤ 9223372036854775807 ∧ r.text.size ≤ 9223372036854775807 := by
  obtain ⟨xs, n, rfl, hx, hl, hn, hf⟩ := DataW.trod_struct Tryz.underlying98 h
  rw [cellsOu] at hl
  obtain ⟨c0, c1, c2, c3, c4, rfl⟩ := lstOu hl
  obtain ⟨x0, x1, x2, x3, x4, rfl⟩ := lstOu (show xs.length = 5 from hn)
  obtain ⟨n0, k0, _, z0⟩ := DataW.trod_string Tryz.underlying9 (hf 0 _ rfl)
  obtain ⟨n1, k1, _, _⟩ := DataW.trod_int Tryz.underlying2 (hf 1 _ rfl)
  obtain ⟨n2, k2, _, z2⟩ := DataW.trod_string Tryz.underlying9 (hf 2 _ rfl)
  obtain ⟨n3, k3, _, _⟩ := DataW.trod_int Tryz.underlying2 (hf 3 _ rfl)
  obtain ⟨n4, k4, _, _⟩ := DataW.trod_int Tryz.underlying2 (hf 4 _ rfl)
  simp [cellsI64, cellsString] at k0 k1 k2 k3 k4
  unfold maxLen at z0 z2
  exact ⟨⟨n0, n1, n2, n3, n4⟩, by rw [k0, k1, k2, k3, k4], z0, z2⟩
theorem openOus {fuel : Nat} {cs : List Value} {x : DataW H × List MemPlace} (h : DataW.trod enc Tryz.prog W base spare held fuel 29 cs = some x) : ∃ v rs, cs = [v] ∧ RowOu W v rs := by
  rcases open_slice Tryz.underlying29 h with ⟨rfl, _⟩ | ⟨a, len, cap, m, n, D, Pl, rfl, _, hl, hm, hmm, _, hx⟩
  · exact ⟨_, [], rfl, RowOu.nil W⟩
  · have hlm : len ≤ m := by rw [hmm]; split <;> omega
    have inh : Inhabited OutR := ⟨⟨⟨#[]⟩, 0, ⟨#[]⟩, 0, 0⟩⟩
    obtain ⟨f, hf⟩ := choose_lt (α := OutR) (p := fun i l => (W.cell? ((a.add (i * 5)).add 0) = some (.string l.partner) ∧ W.cell? ((a.add (i * 5)).add 1) = some (.int .i64 l.number) ∧ W.cell? ((a.add (i * 5)).add 2) = some (.string l.text) ∧ W.cell? ((a.add (i * 5)).add 3) = some (.int .i64 l.tries) ∧ W.cell? ((a.add (i * 5)).add 4) = some (.int .i64 l.due)) ∧ l.partner.size ≤ 9223372036854775807 ∧ l.text.size ≤ 9223372036854775807) (n := len) (fun i hi => by
      obtain ⟨cs', h1, h2⟩ := hx i (by omega)
      rw [cellsOu] at h1
      obtain ⟨l, rfl, hz⟩ := openOu h2
      have k := (World.cells?_some h1).2.2
      have k0 := k 0 (by omega)
      have k1 := k 1 (by omega)
      have k2 := k 2 (by omega)
      have k3 := k 3 (by omega)
      have k4 := k 4 (by omega)
      refine ⟨l, ⟨⟨?_, ?_, ?_, ?_, ?_⟩, hz⟩⟩
      · simpa using k0
      · simpa using k1
      · simpa using k2
      · simpa using k3
      · simpa using k4)
    have htl : ((List.range len).map f).length = len := by simp
    unfold maxLen at hm
    have hget : ∀ (i : Nat) (g : OutR), ((List.range len).map f)[i]? = some g → i < len ∧ g = f i := fun i g hi => by
      have hil := (List.getElem?_eq_some_iff.1 hi).1
      rw [htl] at hil
      exact ⟨hil, by simpa [hil] using hi.symm⟩
    refine ⟨_, (List.range len).map f, rfl, ⟨⟨some a, cap, by rw [htl], fun hn => ?_⟩, by omega, fun i g hi => by obtain ⟨hil, rfl⟩ := hget i g hi; exact (hf i hil).2⟩⟩
    obtain ⟨b, off, spot⟩ := a
    have hpos : 0 < len := by
      rcases Nat.eq_zero_or_pos len with rfl | g
      · exact absurd (by simp) hn
      · exact g
    have h0 := (hf 0 hpos).1.1
    have hspot : spot = none := by simpa [Addr.add] using World.cell?_spot h0
    subst hspot
    refine ⟨b, off, rfl, fun i g hi => ?_⟩
    obtain ⟨hil, rfl⟩ := hget i g hi
    obtain ⟨⟨k0, k1, k2, k3, k4⟩, _⟩ := hf i hil
    rw [fl_addr, fl_addr] at k0 k1 k2 k3 k4
    exact ⟨k0, k1, k2, k3, k4⟩
set_option maxRecDepth 100000 in
theorem openOua {r : Reach} {b0 : Nat} {v : Value} {d : DataW H} {p : List MemPlace} (hv : Value.okWide Tryz.prog W r b0 98 v) (h : DataW.Trod enc Tryz.prog W base spare held 98 v d p) :
    ∃ q : OutR, v = .agg #[.string q.partner, .int .i64 q.number, .string q.text, .int .i64 q.tries, .int .i64 q.due] ∧ q.partner.size ≤ 9223372036854775807 ∧ q.text.size ≤ 9223372036854775807 := by
  obtain ⟨cs, rfl, hsz⟩ := okWide_struct Tryz.underlying98 hv
  obtain ⟨fuel, hf0⟩ := h
  obtain ⟨q, hq, hz⟩ := openOu hf0
  refine ⟨q, ?_, hz⟩
  obtain ⟨l⟩ := cs
  simp [Value.cells] at hq
  rw [hq]
set_option maxRecDepth 100000 in
theorem openOusa {r : Reach} {b0 : Nat} {v : Value} {d : DataW H} {p : List MemPlace} (hv : Value.okWide Tryz.prog W r b0 29 v) (h : DataW.Trod enc Tryz.prog W base spare held 29 v d p) :
    ∃ rs, RowOu W v rs := by
  obtain ⟨a, l, c, rfl⟩ := okWide_slice Tryz.underlying29 hv
  obtain ⟨fuel, hf0⟩ := h
  obtain ⟨v', rs, e, hR⟩ := openOus hf0
  simp [Value.cells] at e
  subst e
  exact ⟨rs, hR⟩
end
end Go.Proofs.YtkgkahlhekecmaaGreat
namespace Go.Proofs.YtkgkahlhekecmaaGreat
open Go.ChangeShapes Go.WideShapes Go.ChangeAt Go.RowKit Go.Joins Go.Deep
theorem cellsGt : Tryz.prog.cellsOf 31 = 8 := by kernel_rfl
theorem lst8 {α : Type} {l : List α} (h : l.length = 8) : ∃ a0 a1 a2 a3 a4 a5 a6 a7, l = [a0, a1, a2, a3, a4, a5, a6, a7] := by
  match l, h with
  | [a0, a1, a2, a3, a4, a5, a6, a7], _ => exact ⟨a0, a1, a2, a3, a4, a5, a6, a7, rfl⟩
theorem lst7 {α : Type} {l : List α} (h : l.length = 7) : ∃ a0 a1 a2 a3 a4 a5 a6, l = [a0, a1, a2, a3, a4, a5, a6] := by
  match l, h with
  | [a0, a1, a2, a3, a4, a5, a6], _ => exact ⟨a0, a1, a2, a3, a4, a5, a6, rfl⟩
section
variable {H : Type} {enc : TypeId × Value → H} {W : World} {base : Nat} {spare : Nat → Bool} {held : Bool}
theorem openGt {fuel : Nat} {cs : List Value} {x : DataW H × List MemPlace} (h : DataW.trod enc Tryz.prog W base spare held fuel 31 cs = some x) :
    ∃ (g : Gat) (up uc us ul ud uo : Value), cs = [.string g.name, .int .i64 g.day, up, uc, us, ul, ud, uo] ∧ RGt W up uc us ul ud uo g := by
  obtain ⟨xs, n, rfl, hx, hl, hn, hf⟩ := DataW.trod_struct Tryz.underlying31 h
  rw [cellsGt] at hl
  obtain ⟨c0, c1, c2, c3, c4, c5, c6, c7, rfl⟩ := lst8 hl
  obtain ⟨x0, x1, x2, x3, x4, x5, x6, rfl⟩ := lst7 (show xs.length = 7 from hn)
  obtain ⟨n0, k0, _, z0⟩ := DataW.trod_string Tryz.underlying9 (hf 0 _ rfl)
  obtain ⟨n1, k1, _, _⟩ := DataW.trod_int Tryz.underlying2 (hf 1 _ rfl)
  obtain ⟨u2, l2, k2, r2⟩ := opensPt (hf 2 _ rfl)
  obtain ⟨u3, l3, k3, r3⟩ := openCss (hf 3 _ rfl)
  obtain ⟨b4, u4, v4, k4, r4⟩ := openBk (hf 4 _ rfl)
  obtain ⟨u5, l5, k5, r5⟩ := openDfs (hf 5 _ rfl)
  obtain ⟨u6, l6, k6, r6⟩ := openOus (hf 6 _ rfl)
  simp [cellsI64, cellsString, cellssPt, cellssCs, cellsBk, cellssDf, cellssOu] at k0 k1 k2 k3 k4 k5 k6
  unfold maxLen at z0
  exact ⟨⟨n0, n1, l2, l3, b4, l5, l6⟩, u2, u3, u4, v4, u5, u6, by rw [k0, k1, k2, k3, k4.1, k4.2, k5, k6], ⟨z0, r2, r3, r4, r5, r6⟩⟩
set_option maxRecDepth 100000 in
theorem openGta {r : Reach} {b0 : Nat} {v : Value} {d : DataW H} {p : List MemPlace} (hv : Value.okWide Tryz.prog W r b0 31 v) (h : DataW.Trod enc Tryz.prog W base spare held 31 v d p) :
    ∃ (g : Gat) (up uc us ul ud uo : Value), v = .agg #[.string g.name, .int .i64 g.day, up, uc, us, ul, ud, uo] ∧ RGt W up uc us ul ud uo g := by
  obtain ⟨cs, rfl, hsz⟩ := okWide_struct Tryz.underlying31 hv
  obtain ⟨fuel, hf0⟩ := h
  obtain ⟨g, u1, u2, u3, u4, u5, u6, hq, hR⟩ := openGt hf0
  refine ⟨g, u1, u2, u3, u4, u5, u6, ?_, hR⟩
  obtain ⟨l⟩ := cs
  simp [Value.cells] at hq
  rw [hq]
end
end Go.Proofs.YtkgkahlhekecmaaGreat
namespace Go.Proofs.YtkgkahlhekecmaaGreat
open Go.ChangeShapes Go.WideShapes Go.ChangeAt Go.RowKit
/-- What the marks make of it. -/
def mkSn (k : Int) (i : Nat) : Sn := ⟨(k + ((i * 3 + 0 : Nat) : Int)), (k + ((i * 3 + 1 : Nat) : Int)), (k + ((i * 3 + 2 : Nat) : Int))⟩
def mkSns (k : Int) (n : Nat) : List Sn := (List.range n).map (mkSn k)
theorem mkSns_len (k : Int) (n : Nat) : (mkSns k n).length = n := by simp [mkSns]
theorem mkSns_at {k : Int} {n i : Nat} {g : Sn} (h : (mkSns k n)[i]? = some g) : i < n ∧ g = mkSn k i := by
  have hi := (List.getElem?_eq_some_iff.1 h).1
  rw [mkSns_len] at hi
  refine ⟨hi, ?_⟩
  simpa [mkSns, hi] using h.symm
set_option maxHeartbeats 2000000 in
theorem markSns_any (b : Nat) (v : Value) (rs : List Sn) (k : Int) (w : World) (h : LSn b w v rs) (hk : 0 ≤ k ∧ k + (rs.length * 3 : Nat) ≤ 9000000000000000000) :
    Calls Tryz.prog 80 #[v, .int .i64 k] w fun e w' => e = .returned (.int .i64 (k + (rs.length * 3 : Nat))) ∧ LSn b w' v (mkSns k rs.length) ∧ Keep b w w' := by
  have hlen := h.len
  obtain ⟨a, cap, rfl⟩ := h.val
  rcases Nat.eq_zero_or_pos rs.length with h0 | h0
  · have hnil : rs = [] := List.eq_nil_of_length_eq_zero h0
    subst hnil
    obtain ⟨_, _, e, _⟩ := h.shape
    clear h
    go_enter Tryz.func80, Tryz.ntmps80
    go_wp2
    go_loopw [1, 5] (fun q i wr => q = .int .i64 k ∧ i = .int .i64 0 ∧ wr = w) (fun _ _ _ => 0)
    case atStart => exact ⟨rfl, rfl, rfl⟩
    case round =>
      obtain ⟨rfl, rfl, rfl⟩ := hrel
      go_wp2
      go_ret
      exact ⟨by simp, ⟨⟨_, _, rfl, fun h => absurd rfl h⟩, by simp [mkSns]⟩, Keep.refl _ _⟩
  · obtain ⟨a', cap', e, hc⟩ := h.shape
    simp only [Value.slice.injEq, true_and] at e
    obtain ⟨rfl, rfl⟩ := e
    obtain ⟨rfl, m, f, hR, hm, hf⟩ := hc (by intro g; rw [g] at h0; simp at h0)
    have HR : Hid (w.rowIs b 148 m f ∧ ∀ (i : Nat) (g : Sn), rs[i]? = some g → f (i * 3) = .int .i64 g.number ∧ f (i * 3 + 1) = .int .i64 g.answer ∧ f (i * 3 + 2) = .int .i64 g.code) := ⟨hR, hf⟩
    clear h hR hf hc
    go_enter Tryz.func80, Tryz.ntmps80
    go_wp2
    go_loopw [1, 5] (fun q i wr => ∃ (j : Nat) (f : Nat → Value), q = .int .i64 (k + (j * 3 : Nat)) ∧ i = .int .i64 (j : Int) ∧ j ≤ rs.length ∧ wr.rowIs b 148 m f ∧ (∀ i, i < rs.length → ∀ c, c < 3 → ∃ z, f (i * 3 + c) = .int .i64 z) ∧ (∀ i, i < j → f (i * 3) = .int .i64 (k + ((i * 3 + 0 : Nat) : Int)) ∧ f (i * 3 + 1) = .int .i64 (k + ((i * 3 + 1 : Nat) : Int)) ∧ f (i * 3 + 2) = .int .i64 (k + ((i * 3 + 2 : Nat) : Int))) ∧ Keep b w wr) (fun _ i _ => rs.length - (intOf i).toNat)
    case atStart =>
      refine ⟨0, f, by simp, rfl, by omega, HR.out.1, fun i hi c hc => ?_, fun i hi => by omega, Keep.refl _ _⟩
      obtain ⟨e0, e1, e2⟩ := HR.out.2 i _ (List.getElem?_eq_getElem hi)
      match c, hc with
      | 0, _ => exact ⟨_, e0⟩
      | 1, _ => exact ⟨_, e1⟩
      | 2, _ => exact ⟨_, e2⟩
    case round =>
      obtain ⟨j, f, rfl, rfl, hj, hR, hI, hA, hK⟩ := hrel
      by_cases hlt : j < rs.length
      · have hlt' : (j : Int) < (rs.length : Int) := by omega
        obtain ⟨z0, e0⟩ := hI j hlt 0 (by omega)
        have e0' : f (j * 3) = .int .i64 z0 := e0
        have k0 := hR.cell (i := j * 3) (by omega)
        rw [e0'] at k0
        obtain ⟨z1, e1⟩ := hI j hlt 1 (by omega)
        have e1' : f (j * 3 + 1) = .int .i64 z1 := e1
        have k1 := hR.cell (i := j * 3 + 1) (by omega)
        rw [e1'] at k1
        obtain ⟨z2, e2⟩ := hI j hlt 2 (by omega)
        have e2' : f (j * 3 + 2) = .int .i64 z2 := e2
        have k2 := hR.cell (i := j * 3 + 2) (by omega)
        rw [e2'] at k2
        have hfz := hR.frozen
        have HS : Hid (wr.rowIs b 148 m f ∧ (∀ i, i < rs.length → ∀ c, c < 3 → ∃ z, f (i * 3 + c) = .int .i64 z) ∧ (∀ i, i < j → f (i * 3) = .int .i64 (k + ((i * 3 + 0 : Nat) : Int)) ∧ f (i * 3 + 1) = .int .i64 (k + ((i * 3 + 1 : Nat) : Int)) ∧ f (i * 3 + 2) = .int .i64 (k + ((i * 3 + 2 : Nat) : Int))) ∧ Keep b w wr) := ⟨hR, hI, hA, hK⟩
        clear hR hI hA hK e0 e0' e1 e1' e2 e2'
        go_wp2
        go_roundw
        case rel =>
          refine ⟨j + 1, _, by go_num, by go_num, by omega, (((HS.out.1.set (j * 3) _).set (j * 3 + 1) _).set (j * 3 + 2) _), fun i hi c hc => ?_, fun i hi => ?_, (((HS.out.2.2.2.setCell _ _).setCell _ _).setCell _ _)⟩
          · repeat' split
            all_goals first | exact ⟨_, rfl⟩ | exact HS.out.2.1 i hi c hc
          · by_cases e1 : i = j
            · subst e1
              refine ⟨?_, ?_, ?_⟩
              · rw [if_neg (by omega), if_neg (by omega), if_pos rfl]
                congr 1 <;> omega
              · rw [if_neg (by omega), if_pos rfl]
                congr 1 <;> omega
              · rw [if_pos rfl]
                congr 1 <;> omega
            · obtain ⟨r0, r1, r2⟩ := HS.out.2.2.1 i (by omega)
              refine ⟨?_, ?_, ?_⟩
              all_goals rw [if_neg (by omega), if_neg (by omega), if_neg (by omega)]
              all_goals assumption
        case measure => simp [intOf]; omega
      · obtain rfl : j = rs.length := by omega
        have HS : Hid (wr.rowIs b 148 m f ∧ (∀ i, i < rs.length → f (i * 3) = .int .i64 (k + ((i * 3 + 0 : Nat) : Int)) ∧ f (i * 3 + 1) = .int .i64 (k + ((i * 3 + 1 : Nat) : Int)) ∧ f (i * 3 + 2) = .int .i64 (k + ((i * 3 + 2 : Nat) : Int))) ∧ Keep b w wr) := ⟨hR, hA, hK⟩
        clear hR hI hA hK
        go_wp2
        go_ret
        refine ⟨rfl, ⟨⟨_, _, by rw [mkSns_len], fun _ => ⟨rfl, m, f, HS.out.1, by rw [mkSns_len]; exact hm, fun i g hg => ?_⟩⟩, by rw [mkSns_len]; omega⟩, HS.out.2.2⟩
        obtain ⟨hi, rfl⟩ := mkSns_at hg
        exact HS.out.2.1 i hi
end Go.Proofs.YtkgkahlhekecmaaGreat
namespace Go.Proofs.YtkgkahlhekecmaaGreat
open Go.ChangeShapes Go.WideShapes Go.ChangeAt Go.RowKit
theorem conv1 (W : World) (x : Int) : (convert 174 9 (.slice (some ⟨W.heap.size, 0, none⟩) 1 1)).run Tryz.prog (W.alloc (.cells #[.int .u8 x] 5)) = .ok (.string (strOfNums [x])) (W.alloc (.cells #[.int .u8 x] 5)) :=
  run_convert_bytes_arg _ 174 5 Tryz.underlying174 Tryz.underlying5 W.heap.size 0 1 1 [x] rfl (fun i hi => by
    rcases i with _ | i
    · simp [go_sem]
    · omega) 9 Tryz.underlying9
end Go.Proofs.YtkgkahlhekecmaaGreat
namespace Go.Proofs.YtkgkahlhekecmaaGreat
open Go.ChangeShapes Go.WideShapes Go.ChangeAt Go.RowKit
/-- The digits of a number ahead of a text. -/
def dgs : Nat → Nat → ByteArray → ByteArray
  | 0, _, acc => acc
  | f + 1, k, acc => if k = 0 then acc else dgs f (k / 10) (strOfNums [48 + ((k % 10 : Nat) : Int)] ++ acc)
theorem dgs_zero (f : Nat) (acc : ByteArray) : dgs f 0 acc = acc := by cases f <;> simp [dgs]
theorem dgs_size : ∀ (f k : Nat) (acc : ByteArray), (dgs f k acc).size ≤ acc.size + f
  | 0, _, acc => Nat.le_refl _
  | f + 1, k, acc => by
    unfold dgs
    split
    · omega
    · have := dgs_size f (k / 10) (strOfNums [48 + ((k % 10 : Nat) : Int)] ++ acc)
      rw [ByteArray.size_append, strOfNums_size] at this
      simp at this
      simp
      omega
def mtB (k : Nat) : ByteArray := ⟨#[109]⟩ ++ dgs 12 k ⟨#[]⟩
theorem mtB_size (k : Nat) : (mtB k).size ≤ 13 := by
  unfold mtB
  have := dgs_size 12 k ⟨#[]⟩
  rw [ByteArray.size_append]
  have e1 : (⟨#[109]⟩ : ByteArray).size = 1 := rfl
  have e2 : (⟨#[]⟩ : ByteArray).size = 0 := rfl
  omega
set_option maxHeartbeats 1000000 in
theorem markText_b (z : Int) (k0 : Nat) (hz : z = (k0 : Int)) (w : World) (h0 : 0 < k0) (h1 : k0 < 1000000000000) :
    Calls Tryz.prog 79 #[.int .i64 z] w fun e w' => e = .returned (.string (mtB k0)) ∧ Below w.heap.size w w' := by
  subst hz
  have h0' : (0 : Int) < (k0 : Int) := by omega
  have h1' : (k0 : Int) < 1000000000000 := by omega
  have hz0 : decide (k0 = 0) = false := by simp; omega
  go_enter Tryz.func79, Tryz.ntmps79
  go_wp2
  go_loopw [0, 3] (fun kv o wr => ∃ (f j : Nat) (acc : ByteArray), kv = .int .i64 j ∧ o = .string acc ∧ j < 10 ^ f ∧ j < 1000000000000 ∧ acc.size + f ≤ 12 ∧ dgs f j acc = dgs 12 k0 ⟨#[]⟩ ∧ Below w.heap.size w wr) (fun kv _ _ => (intOf kv).toNat)
  case atStart =>
    have e12 : (10 : Nat) ^ 12 = 1000000000000 := by decide
    exact ⟨12, k0, ⟨#[]⟩, rfl, rfl, by omega, h1, by decide, rfl, Below.refl _ _⟩
  case round =>
    obtain ⟨f, j, acc, rfl, rfl, hj, hj2, hac, hd, hb⟩ := hrel
    have H : Hid (j < 10 ^ f ∧ dgs f j acc = dgs 12 k0 ⟨#[]⟩ ∧ Below w.heap.size w wr) := ⟨hj, hd, hb⟩
    have hwz := hb.size
    clear hj hd hb
    have hcv := conv1 wr
    by_cases hp : 0 < j
    · have hp' : (0 : Int) < (j : Int) := by omega
      have hsn : (strOfNums [48 + (j : Int) % 10]).size = 1 := by rw [strOfNums_size]; rfl
      go_wp2
      obtain ⟨f, rfl⟩ : ∃ f', f = f' + 1 := by
        cases f with
        | zero =>
          have := H.out.1
          simp at this
          omega
        | succ f => exact ⟨f, rfl⟩
      have hd := H.out.2.1
      unfold dgs at hd
      rw [if_neg (by omega)] at hd
      have hlt : j / 10 < 10 ^ f := by
        have := H.out.1
        rw [Nat.pow_succ] at this
        omega
      go_roundw
      case rel => exact ⟨f, j / 10, strOfNums [48 + ((j % 10 : Nat) : Int)] ++ acc, by simp, by simp, hlt, by omega, by rw [ByteArray.size_append, strOfNums_size]; simp; omega, hd, H.out.2.2.alloc hwz _⟩
      case measure => simp [intOf]; omega
    · obtain rfl : j = 0 := by omega
      have hacc : acc.size ≤ 12 := by omega
      have hd := H.out.2.1
      rw [dgs_zero] at hd
      have HD : Hid (acc = dgs 12 k0 ⟨#[]⟩) := hd
      clear hd
      go_wp2
      go_ret
      exact ⟨by unfold mtB; rw [← HD.out]; rfl, H.out.2.2⟩
end Go.Proofs.YtkgkahlhekecmaaGreat
namespace Go.Proofs.YtkgkahlhekecmaaGreat
open Go.ChangeShapes Go.WideShapes Go.ChangeAt Go.RowKit
/-- What the marks make of one. -/
def mkP (k : Nat) (p : Ptn) : Ptn := ⟨mtB k, ((k + 1 : Nat) : Int), ((k + 2 : Nat) : Int), mkSns ((k + 3 : Nat) : Int) p.seen.length⟩
def cntP : List Ptn → Nat
  | [] => 0
  | p :: r => 3 + p.seen.length * 3 + cntP r
def mkPts (k : Nat) : List Ptn → List Ptn
  | [] => []
  | p :: r => mkP k p :: mkPts (k + (3 + p.seen.length * 3)) r
theorem mkPts_len : ∀ (k : Nat) (ps : List Ptn), (mkPts k ps).length = ps.length
  | _, [] => rfl
  | k, p :: r => by simp [mkPts, mkPts_len]
theorem cntP_app : ∀ (a b : List Ptn), cntP (a ++ b) = cntP a + cntP b
  | [], b => by simp [cntP]
  | p :: r, b => by
    simp only [List.cons_append, cntP]
    rw [cntP_app r b]
    omega
theorem cntP_take_succ {ps : List Ptn} {j : Nat} {p : Ptn} (h : ps[j]? = some p) : cntP (ps.take (j + 1)) = cntP (ps.take j) + (3 + p.seen.length * 3) := by
  rw [List.take_add_one, h, cntP_app]
  simp [cntP]
theorem cntP_take_le (ps : List Ptn) (j : Nat) : cntP (ps.take j) ≤ cntP ps := by
  have := cntP_app (ps.take j) (ps.drop j)
  rw [List.take_append_drop] at this
  omega
theorem mkPts_at : ∀ {ps : List Ptn} {k j : Nat} {p : Ptn}, ps[j]? = some p → (mkPts k ps)[j]? = some (mkP (k + cntP (ps.take j)) p)
  | [], _, _, _, h => by simp at h
  | x :: r, k, 0, p, h => by
    simp at h
    subst h
    simp [mkPts, cntP]
  | x :: r, k, j + 1, p, h => by
    have := mkPts_at (ps := r) (k := k + (3 + x.seen.length * 3)) (j := j) (p := p) (by simpa using h)
    simp only [mkPts, List.getElem?_cons_succ, this, List.take_succ_cons, cntP]
    congr 2
    omega
/-- The first j are marked. -/
def mxP (k : Nat) (ps : List Ptn) (j : Nat) : List Ptn := (mkPts k ps).take j ++ ps.drop j
theorem mxP_zero (k : Nat) (ps : List Ptn) : mxP k ps 0 = ps := by simp [mxP]
theorem mxP_end (k : Nat) (ps : List Ptn) : mxP k ps ps.length = mkPts k ps := by
  simp only [mxP, List.drop_length, List.append_nil]
  rw [List.take_of_length_le]
  rw [mkPts_len]
  exact Nat.le_refl _
theorem mxP_len {k : Nat} {ps : List Ptn} {j : Nat} (hj : j ≤ ps.length) : (mxP k ps j).length = ps.length := by
  simp only [mxP, List.length_append, List.length_take, List.length_drop, mkPts_len]
  omega
theorem mxP_at {k : Nat} {ps : List Ptn} {j : Nat} (hj : j < ps.length) {p : Ptn} (h : ps[j]? = some p) : (mxP k ps j)[j]? = some p := by
  unfold mxP
  rw [List.getElem?_append_right (by rw [List.length_take, mkPts_len]; omega), List.length_take, mkPts_len, Nat.min_eq_left (by omega), Nat.sub_self, List.getElem?_drop, Nat.add_zero]
  exact h
theorem mxP_step {k : Nat} {ps : List Ptn} {j : Nat} (hj : j < ps.length) {p : Ptn} (h : ps[j]? = some p) : mxP k ps (j + 1) = (mxP k ps j).set j (mkP (k + cntP (ps.take j)) p) := by
  unfold mxP
  have hl : ((mkPts k ps).take j).length = j := by rw [List.length_take, mkPts_len]; omega
  rw [List.take_add_one, mkPts_at h, List.set_append_right _ _ (by omega), hl, Nat.sub_self, List.append_assoc]
  congr 1
  have hd : ps.drop j = p :: ps.drop (j + 1) := by
    obtain ⟨hlt, e⟩ := List.getElem?_eq_some_iff.1 h
    rw [← e, List.getElem_cons_drop]
  rw [hd]
  rfl
/-- A list of partners whose memory may be marked: its row in block b, the lists of each in blocks of their own. -/
structure LPt (W : World) (v : Value) (ps : List Ptn) (b : Nat) (f : Nat → Value) (β : Nat → Nat) : Prop where
  shape : ∃ a cap, v = .slice a ps.length cap ∧ (ps ≠ [] → a = some ⟨b, 0, none⟩ ∧ ∃ m g, W.rowIs b 63 m g ∧ ps.length * 4 ≤ m ∧ ∀ (i : Nat) (p : Ptn), ps[i]? = some p → g (i * 4) = .string p.name ∧ g (i * 4 + 1) = .int .i64 p.low ∧ g (i * 4 + 2) = .int .i64 p.next ∧ g (i * 4 + 3) = f i)
  sn : ∀ (i : Nat) (p : Ptn), ps[i]? = some p → LSn (β i) W (f i) p.seen
  ap : ∀ (i j : Nat) (p q : Ptn), i ≠ j → ps[i]? = some p → ps[j]? = some q → p.seen ≠ [] → q.seen ≠ [] → β i ≠ β j
  len : ps.length ≤ 9223372036854775807
  nm : ∀ (i : Nat) (p : Ptn), ps[i]? = some p → p.name.size ≤ 9223372036854775807
/-- Its blocks. -/
def blkP (ps : List Ptn) (b : Nat) (β : Nat → Nat) (k : Nat) : Prop := (k = b ∧ ps ≠ []) ∨ ∃ (i : Nat) (p : Ptn), ps[i]? = some p ∧ p.seen ≠ [] ∧ k = β i
theorem LPt.row {W : World} {v : Value} {ps : List Ptn} {b : Nat} {f : Nat → Value} {β : Nat → Nat} (h : LPt W v ps b f β) : RowPt W v ps := by
  obtain ⟨a, cap, e, hc⟩ := h.shape
  refine ⟨⟨a, cap, e, fun hn => ?_⟩, h.len⟩
  obtain ⟨ea, m, g, hR, hm, hg⟩ := hc hn
  refine ⟨b, 0, ea, fun i p hi => ?_⟩
  have hlt := (List.getElem?_eq_some_iff.1 hi).1
  obtain ⟨g0, g1, g2, g3⟩ := hg i p hi
  have c0 := hR.cell (i := i * 4) (by omega)
  have c1 := hR.cell (i := i * 4 + 1) (by omega)
  have c2 := hR.cell (i := i * 4 + 2) (by omega)
  have c3 := hR.cell (i := i * 4 + 3) (by omega)
  rw [g0] at c0
  rw [g1] at c1
  rw [g2] at c2
  rw [g3] at c3
  rw [Nat.zero_add]
  exact ⟨f i, ⟨c0, c1, c2, c3⟩, ⟨(h.sn i p hi).row, h.nm i p hi⟩⟩
theorem LPt.val {W : World} {v : Value} {ps : List Ptn} {b : Nat} {f : Nat → Value} {β : Nat → Nat} (h : LPt W v ps b f β) : ∃ a cap, v = .slice a ps.length cap := by
  obtain ⟨a, cap, e, _⟩ := h.shape
  exact ⟨a, cap, e⟩
theorem LPt.of_blocks {W W' : World} {v : Value} {ps : List Ptn} {b : Nat} {f : Nat → Value} {β : Nat → Nat} (h : LPt W v ps b f β) (hb : ∀ k, blkP ps b β k → W'.heap[k]? = W.heap[k]?) : LPt W' v ps b f β := by
  refine ⟨?_, fun i p hi => (h.sn i p hi).of_block fun hn => hb _ (.inr ⟨i, p, hi, hn, rfl⟩), h.ap, h.len, h.nm⟩
  obtain ⟨a, cap, e, hc⟩ := h.shape
  refine ⟨a, cap, e, fun hn => ?_⟩
  obtain ⟨ea, m, g, hR, hm, hg⟩ := hc hn
  exact ⟨ea, m, g, hR.of_block (hb b (.inl ⟨rfl, hn⟩)), hm, hg⟩
theorem LPt.lt {W : World} {v : Value} {ps : List Ptn} {b : Nat} {f : Nat → Value} {β : Nat → Nat} (h : LPt W v ps b f β) {k : Nat} (hk : blkP ps b β k) : k < W.heap.size := by
  rcases hk with ⟨rfl, hn⟩ | ⟨i, p, hi, hn, rfl⟩
  · obtain ⟨a, cap, e, hc⟩ := h.shape
    obtain ⟨ea, m, g, hR, _⟩ := hc hn
    exact hR.lt
  · exact (h.sn i p hi).lt hn
theorem LPt.below {W W' : World} {v : Value} {ps : List Ptn} {b : Nat} {f : Nat → Value} {β : Nat → Nat} (h : LPt W v ps b f β) (hb : Below W.heap.size W W') : LPt W' v ps b f β := h.of_blocks fun k hk => hb.block k (h.lt hk)
theorem rowIs_ne {W : World} {a b t u m n : Nat} {f g : Nat → Value} (h1 : W.rowIs a t m f) (h2 : W.rowIs b u n g) (hne : t ≠ u) : a ≠ b := by
  intro e
  subst e
  obtain ⟨x1, y1, _⟩ := h1
  obtain ⟨x2, y2, _⟩ := h2
  have y3 := y1.symm.trans y2
  simp at y3
  exact hne y3.2
theorem LSn.rowIs {b : Nat} {W : World} {v : Value} {rs : List Sn} (h : LSn b W v rs) (hn : rs ≠ []) : ∃ m f, W.rowIs b 148 m f := by
  obtain ⟨a, cap, e, hc⟩ := h.shape
  obtain ⟨_, m, f, hR, _⟩ := hc hn
  exact ⟨m, f, hR⟩
theorem LPt.ne {W : World} {v : Value} {ps : List Ptn} {b : Nat} {f : Nat → Value} {β : Nat → Nat} (h : LPt W v ps b f β) {i : Nat} {p : Ptn} (hi : ps[i]? = some p) (hn : p.seen ≠ []) : β i ≠ b := by
  obtain ⟨a, cap, e, hc⟩ := h.shape
  obtain ⟨ea, m, g, hR, _⟩ := hc (by intro e; rw [e] at hi; simp at hi)
  obtain ⟨n, f', hS⟩ := (h.sn i p hi).rowIs hn
  exact rowIs_ne hS hR (by decide)
theorem get_set {ps : List Ptn} {j i : Nat} {q p : Ptn} (h : (ps.set j q)[i]? = some p) : (i = j ∧ p = q ∧ j < ps.length) ∨ (i ≠ j ∧ ps[i]? = some p) := by
  rw [List.getElem?_set] at h
  split at h
  · rename_i e
    subst e
    split at h
    · cases h
      exact .inl ⟨rfl, rfl, by assumption⟩
    · cases h
  · rename_i e
    exact .inr ⟨fun e' => e e'.symm, h⟩
/-- The scalars of one are written. -/
theorem LPt.scal {W : World} {v : Value} {ps : List Ptn} {b : Nat} {f : Nat → Value} {β : Nat → Nat} {j : Nat} {p : Ptn} (h : LPt W v ps b f β) (hj : ps[j]? = some p) (s : ByteArray) (x y : Int) (hs : s.size ≤ 9223372036854775807) :
    LPt (((W.setCell ⟨b, j * 4, none⟩ (.string s)).setCell ⟨b, j * 4 + 1, none⟩ (.int .i64 x)).setCell ⟨b, j * 4 + 2, none⟩ (.int .i64 y)) v (ps.set j ⟨s, x, y, p.seen⟩) b f β := by
  obtain ⟨a, cap, e, hc⟩ := h.shape
  have hne : ps ≠ [] := by intro e; rw [e] at hj; simp at hj
  obtain ⟨ea, m, g, hR, hm, hg⟩ := hc hne
  have old : ∀ {i : Nat} {q : Ptn}, (ps.set j ⟨s, x, y, p.seen⟩)[i]? = some q → ∃ q', ps[i]? = some q' ∧ q'.seen = q.seen := fun {i q} hi => by
    rcases get_set hi with ⟨rfl, rfl, _⟩ | ⟨_, hi⟩
    · exact ⟨p, hj, rfl⟩
    · exact ⟨q, hi, rfl⟩
  refine ⟨⟨a, cap, by rw [List.length_set]; exact e, fun _ => ⟨ea, m, _, ((hR.set (j * 4) (.string s)).set (j * 4 + 1) (.int .i64 x)).set (j * 4 + 2) (.int .i64 y), by rw [List.length_set]; exact hm, fun i q hi => ?_⟩⟩, fun i q hi => ?_, fun i k q r hik hi hk hq hr => ?_, by rw [List.length_set]; exact h.len, fun i q hi => ?_⟩
  · rcases get_set hi with ⟨rfl, rfl, _⟩ | ⟨hij, hi⟩
    · obtain ⟨_, _, _, g3⟩ := hg i p hj
      refine ⟨?_, ?_, ?_, ?_⟩ <;> (try dsimp only)
      · rw [if_neg (by omega), if_neg (by omega), if_pos rfl]
      · rw [if_neg (by omega), if_pos rfl]
      · rw [if_pos rfl]
      · rw [if_neg (by omega), if_neg (by omega), if_neg (by omega)]
        exact g3
    · obtain ⟨g0, g1, g2, g3⟩ := hg i q hi
      refine ⟨?_, ?_, ?_, ?_⟩ <;> (try dsimp only)
      all_goals rw [if_neg (by omega), if_neg (by omega), if_neg (by omega)]
      all_goals assumption
  · obtain ⟨q', hq', eq⟩ := old hi
    have hL := h.sn i q' hq'
    rw [eq] at hL
    refine hL.of_block fun hn => ?_
    have hb : β i ≠ b := h.ne hq' (by rw [eq]; exact hn)
    simp only [World.setCell, Array.getElem?_modify]
    rw [if_neg (Ne.symm hb), if_neg (Ne.symm hb), if_neg (Ne.symm hb)]
  · obtain ⟨q', hq', e1⟩ := old hi
    obtain ⟨r', hr', e2⟩ := old hk
    exact h.ap i k q' r' hik hq' hr' (by rw [e1]; exact hq) (by rw [e2]; exact hr)
  · rcases get_set hi with ⟨rfl, rfl, _⟩ | ⟨_, hi⟩
    · exact hs
    · exact h.nm i q hi
/-- The list of one is marked. -/
theorem LPt.seen {W W' : World} {v : Value} {ps : List Ptn} {b : Nat} {f : Nat → Value} {β : Nat → Nat} {j : Nat} {p : Ptn} (h : LPt W v ps b f β) (hj : ps[j]? = some p) (ss : List Sn) (hss : p.seen ≠ [] ∧ ss ≠ []) (hk : Keep (β j) W W') (hL : LSn (β j) W' (f j) ss) :
    LPt W' v (ps.set j ⟨p.name, p.low, p.next, ss⟩) b f β := by
  obtain ⟨a, cap, e, hc⟩ := h.shape
  have hne : ps ≠ [] := by intro e; rw [e] at hj; simp at hj
  obtain ⟨ea, m, g, hR, hm, hg⟩ := hc hne
  have hbj := h.ne hj hss.1
  refine ⟨⟨a, cap, by rw [List.length_set]; exact e, fun _ => ⟨ea, m, g, hR.of_block (hk.block b hR.lt (Ne.symm hbj)), by rw [List.length_set]; exact hm, fun i q hi => ?_⟩⟩, fun i q hi => ?_, fun i k q r hik hi hk' hq hr => ?_, by rw [List.length_set]; exact h.len, fun i q hi => ?_⟩
  · rcases get_set hi with ⟨rfl, rfl, _⟩ | ⟨hij, hi⟩
    · exact hg i p hj
    · exact hg i q hi
  · rcases get_set hi with ⟨rfl, rfl, _⟩ | ⟨hij, hi⟩
    · exact hL
    · exact (h.sn i q hi).of_block fun hn => hk.block _ ((h.sn i q hi).lt hn) (h.ap i j q p hij hi hj hn hss.1)
  · have old : ∀ {i : Nat} {q : Ptn}, (ps.set j ⟨p.name, p.low, p.next, ss⟩)[i]? = some q → q.seen ≠ [] → ∃ q', ps[i]? = some q' ∧ q'.seen ≠ [] := fun {i q} hi hq => by
      rcases get_set hi with ⟨rfl, rfl, _⟩ | ⟨_, hi⟩
      · exact ⟨p, hj, hss.1⟩
      · exact ⟨q, hi, hq⟩
    obtain ⟨q', h1, h2⟩ := old hi hq
    obtain ⟨r', h3, h4⟩ := old hk' hr
    exact h.ap i k q' r' hik h1 h3 h2 h4
  · rcases get_set hi with ⟨rfl, rfl, _⟩ | ⟨_, hi⟩
    · exact h.nm i p hj
    · exact h.nm i q hi
end Go.Proofs.YtkgkahlhekecmaaGreat
namespace Go.Proofs.YtkgkahlhekecmaaGreat
open Go.ChangeShapes Go.WideShapes Go.ChangeAt Go.RowKit
/-- All but the blocks of a set as it lay. -/
structure KeepP (S : Nat → Prop) (w w' : World) : Prop where
  os : w'.os = w.os
  tape : w'.tape = w.tape
  output : w'.output = w.output
  size : w.heap.size ≤ w'.heap.size
  block : ∀ k, k < w.heap.size → ¬ S k → w'.heap[k]? = w.heap[k]?
theorem KeepP.of_below {S : Nat → Prop} {w w' : World} (h : Below w.heap.size w w') : KeepP S w w' := ⟨h.os, h.tape, h.output, h.size, fun k hk _ => h.block k hk⟩
theorem KeepP.trans {S : Nat → Prop} {a b c : World} (h : KeepP S a b) (h' : KeepP S b c) : KeepP S a c :=
  ⟨h'.os.trans h.os, h'.tape.trans h.tape, h'.output.trans h.output, Nat.le_trans h.size h'.size, fun k hk hs => (h'.block k (Nat.lt_of_lt_of_le hk h.size) hs).trans (h.block k hk hs)⟩
theorem KeepP.mono {S S' : Nat → Prop} {w w' : World} (h : KeepP S w w') (hs : ∀ k, S k → S' k) : KeepP S' w w' := ⟨h.os, h.tape, h.output, h.size, fun k hk hn => h.block k hk fun x => hn (hs k x)⟩
theorem KeepP.below {S : Nat → Prop} {M : Nat} {w w' : World} (h : KeepP S w w') (hs : ∀ k, S k → M ≤ k) (hM : M ≤ w.heap.size) : Below M w w' :=
  ⟨h.os, h.tape, h.output, h.size, fun k hk => h.block k (by omega) fun x => by have := hs k x; omega⟩
end Go.Proofs.YtkgkahlhekecmaaGreat
