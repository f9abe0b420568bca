/- Texts of ours put together: EqBk, OpenB, OpenSt. -/
import Derived.Test.YtjmkdpnoihpfoaaGreatDoorG03
import Derived.Test.YtjmkdpnoihpfoaaGreatDoorG07
import Derived.Test.YtjmkdpnoihpfoaaGreatDoorG08
import Derived.Deep.Slices
import Derived.SliceStrings
import Derived.Lib.SmallJoins
import Derived.Test.YtjmkdpnoihpfoaaGreatDoorG00
import Derived.Test.YtjmkdpnoihpfoaaGreatDoorG01
namespace Go.Proofs.YtjmkdpnoihpfoaaGreatDoor
open Go.ChangeShapes Go.WideShapes Go.ChangeAt Go.RowKit
set_option maxHeartbeats 2000000 in
theorem eqBk_any (b : Bk) (us ul us' ul' : Value) (w : World) (h : RBk w us ul b) (h' : RBk w us' ul' b) :
    Calls Tryz.prog 8 #[.agg #[us, ul], .agg #[us', ul']] w fun e w' => e = .returned (.bool true) ∧ Below w.heap.size w w' := by
  obtain ⟨stocks, lines⟩ := b
  obtain ⟨a, cap, a2, cap2, rfl, rfl⟩ := h.val
  obtain ⟨a', cap', a2', cap2', rfl, rfl⟩ := h'.val
  dsimp only at h h' ⊢
  have b0 : Below w.heap.size w ((w.alloc (.cells #[.slice a stocks.length cap, .slice a2 lines.length cap2] 31)).alloc (.cells #[.slice a' stocks.length cap', .slice a2' lines.length cap2'] 31)) := ((Below.refl _ _).alloc (Nat.le_refl _) _).alloc (by simp) _
  have hx0 : ((w.alloc (.cells #[.slice a stocks.length cap, .slice a2 lines.length cap2] 31)).alloc (.cells #[.slice a' stocks.length cap', .slice a2' lines.length cap2'] 31)).heap[w.heap.size]? = some (.cells #[.slice a stocks.length cap, .slice a2 lines.length cap2] 31) := by
    rw [((Below.refl (w.alloc (.cells #[.slice a stocks.length cap, .slice a2 lines.length cap2] 31)).heap.size (w.alloc (.cells #[.slice a stocks.length cap, .slice a2 lines.length cap2] 31))).alloc (Nat.le_refl _) _).block _ (by simp)]
    exact World.alloc_heap_new _ _
  have hx1 : ((w.alloc (.cells #[.slice a stocks.length cap, .slice a2 lines.length cap2] 31)).alloc (.cells #[.slice a' stocks.length cap', .slice a2' lines.length cap2'] 31)).heap[w.heap.size + 1]? = some (.cells #[.slice a' stocks.length cap', .slice a2' lines.length cap2'] 31) := by
    have := World.alloc_heap_new (w.alloc (.cells #[.slice a stocks.length cap, .slice a2 lines.length cap2] 31)) (.cells #[.slice a' stocks.length cap', .slice a2' lines.length cap2'] 31)
    simpa using this
  have H : Hid (RBk ((w.alloc (.cells #[.slice a stocks.length cap, .slice a2 lines.length cap2] 31)).alloc (.cells #[.slice a' stocks.length cap', .slice a2' lines.length cap2'] 31)) (.slice a stocks.length cap) (.slice a2 lines.length cap2) ⟨stocks, lines⟩ ∧ RBk ((w.alloc (.cells #[.slice a stocks.length cap, .slice a2 lines.length cap2] 31)).alloc (.cells #[.slice a' stocks.length cap', .slice a2' lines.length cap2'] 31)) (.slice a' stocks.length cap') (.slice a2' lines.length cap2') ⟨stocks, lines⟩) := ⟨h.below b0, h'.below b0⟩
  clear h h'
  go_enter Tryz.func8, Tryz.ntmps8
  go_wp2_with fail
  refine (eqSts_any _ _ stocks _ H.out.1.st H.out.2.st).mono ?_
  rintro e w1 ⟨rfl, hb⟩
  have HC : Hid (Below w.heap.size w w1 ∧ Below ((w.alloc (.cells #[.slice a stocks.length cap, .slice a2 lines.length cap2] 31)).alloc (.cells #[.slice a' stocks.length cap', .slice a2' lines.length cap2'] 31)).heap.size ((w.alloc (.cells #[.slice a stocks.length cap, .slice a2 lines.length cap2] 31)).alloc (.cells #[.slice a' stocks.length cap', .slice a2' lines.length cap2'] 31)) w1) := ⟨b0.trans (hb.mono (by simp; omega)), hb⟩
  obtain ⟨y0, y1⟩ := box2 ((hb.block _ (by simp; omega)).trans hx0)
  obtain ⟨z0, z1⟩ := box2 ((hb.block _ (by simp)).trans hx1)
  clear hb hx0 hx1
  go_wp2_with fail
  refine (eqOls_any _ _ lines _ (H.out.1.ln.below HC.out.2) (H.out.2.ln.below HC.out.2)).mono ?_
  rintro e w2 ⟨rfl, hb2⟩
  have HD : Hid (Below w.heap.size w w2) := HC.out.1.trans (hb2.mono HC.out.1.size)
  clear hb2 y0 y1 z0 z1
  go_wp2
  go_ret
  exact ⟨rfl, HD.out⟩
end Go.Proofs.YtjmkdpnoihpfoaaGreatDoor
namespace Go.Proofs.YtjmkdpnoihpfoaaGreatDoor
open Go.ChangeShapes Go.WideShapes Go.ChangeAt Go.RowKit
theorem cellsI64 : Tryz.prog.cellsOf 2 = 1 := by kernel_rfl
theorem cellsString : Tryz.prog.cellsOf 9 = 1 := by kernel_rfl
end Go.Proofs.YtjmkdpnoihpfoaaGreatDoor
namespace Go.Proofs.YtjmkdpnoihpfoaaGreatDoor
open Go.ChangeShapes Go.WideShapes Go.ChangeAt Go.RowKit Go.Joins Go.Deep
theorem cellsSt : Tryz.prog.cellsOf 54 = 2 := by kernel_rfl
theorem cellssSt : Tryz.prog.cellsOf 22 = 1 := by kernel_rfl
theorem lstSt {α : Type} {l : List α} (h : l.length = 2) : ∃ a0 a1, l = [a0, a1] := by
  match l, h with
  | [a0, a1], _ => exact ⟨a0, a1, rfl⟩
section
variable {H : Type} {enc : TypeId × Value → H} {W : World} {base : Nat} {spare : Nat → Bool} {held : Bool}
theorem openSt {fuel : Nat} {cs : List Value} {x : DataW H × List MemPlace} (h : DataW.trod enc Tryz.prog W base spare held fuel 54 cs = some x) :
    ∃ r : Stk, cs = [.string r.item, .int .i64 r.hand] ∧ r.item.size ≤ 9223372036854775807 := by
  obtain ⟨xs, n, rfl, hx, hl, hn, hf⟩ := DataW.trod_struct Tryz.underlying54 h
  rw [cellsSt] at hl
  obtain ⟨c0, c1, rfl⟩ := lstSt hl
  obtain ⟨x0, x1, rfl⟩ := lstSt (show xs.length = 2 from hn)
  obtain ⟨n0, k0, _, z0⟩ := DataW.trod_string Tryz.underlying9 (hf 0 _ rfl)
  obtain ⟨n1, k1, _, _⟩ := DataW.trod_int Tryz.underlying2 (hf 1 _ rfl)
  simp [cellsI64, cellsString] at k0 k1
  unfold maxLen at z0
  exact ⟨⟨n0, n1⟩, by rw [k0, k1], z0⟩
theorem openSts {fuel : Nat} {cs : List Value} {x : DataW H × List MemPlace} (h : DataW.trod enc Tryz.prog W base spare held fuel 22 cs = some x) : ∃ v rs, cs = [v] ∧ RowSt W v rs := by
  rcases open_slice Tryz.underlying22 h with ⟨rfl, _⟩ | ⟨a, len, cap, m, n, D, Pl, rfl, _, hl, hm, hmm, _, hx⟩
  · exact ⟨_, [], rfl, RowSt.nil W⟩
  · have hlm : len ≤ m := by rw [hmm]; split <;> omega
    have inh : Inhabited Stk := ⟨⟨⟨#[]⟩, 0⟩⟩
    obtain ⟨f, hf⟩ := choose_lt (α := Stk) (p := fun i l => (W.cell? ((a.add (i * 2)).add 0) = some (.string l.item) ∧ W.cell? ((a.add (i * 2)).add 1) = some (.int .i64 l.hand)) ∧ l.item.size ≤ 9223372036854775807) (n := len) (fun i hi => by
      obtain ⟨cs', h1, h2⟩ := hx i (by omega)
      rw [cellsSt] at h1
      obtain ⟨l, rfl, hz⟩ := openSt h2
      have k := (World.cells?_some h1).2.2
      have k0 := k 0 (by omega)
      have k1 := k 1 (by omega)
      refine ⟨l, ⟨⟨?_, ?_⟩, hz⟩⟩
      · simpa using k0
      · simpa using k1)
    have htl : ((List.range len).map f).length = len := by simp
    unfold maxLen at hm
    have hget : ∀ (i : Nat) (g : Stk), ((List.range len).map f)[i]? = some g → i < len ∧ g = f i := fun i g hi => by
      have hil := (List.getElem?_eq_some_iff.1 hi).1
      rw [htl] at hil
      exact ⟨hil, by simpa [hil] using hi.symm⟩
    refine ⟨_, (List.range len).map f, rfl, ⟨⟨some a, cap, by rw [htl], fun hn => ?_⟩, by omega, fun i g hi => by obtain ⟨hil, rfl⟩ := hget i g hi; exact (hf i hil).2⟩⟩
    obtain ⟨b, off, spot⟩ := a
    have hpos : 0 < len := by
      rcases Nat.eq_zero_or_pos len with rfl | g
      · exact absurd (by simp) hn
      · exact g
    have h0 := (hf 0 hpos).1.1
    have hspot : spot = none := by simpa [Addr.add] using World.cell?_spot h0
    subst hspot
    refine ⟨b, off, rfl, fun i g hi => ?_⟩
    obtain ⟨hil, rfl⟩ := hget i g hi
    obtain ⟨⟨k0, k1⟩, _⟩ := hf i hil
    rw [fl_addr, fl_addr] at k0 k1
    exact ⟨k0, k1⟩
set_option maxRecDepth 100000 in
theorem openSta {r : Reach} {b0 : Nat} {v : Value} {d : DataW H} {p : List MemPlace} (hv : Value.okWide Tryz.prog W r b0 54 v) (h : DataW.Trod enc Tryz.prog W base spare held 54 v d p) :
    ∃ q : Stk, v = .agg #[.string q.item, .int .i64 q.hand] ∧ q.item.size ≤ 9223372036854775807 := by
  obtain ⟨cs, rfl, hsz⟩ := okWide_struct Tryz.underlying54 hv
  obtain ⟨fuel, hf0⟩ := h
  obtain ⟨q, hq, hz⟩ := openSt hf0
  refine ⟨q, ?_, hz⟩
  obtain ⟨l⟩ := cs
  simp [Value.cells] at hq
  rw [hq]
set_option maxRecDepth 100000 in
theorem openStsa {r : Reach} {b0 : Nat} {v : Value} {d : DataW H} {p : List MemPlace} (hv : Value.okWide Tryz.prog W r b0 22 v) (h : DataW.Trod enc Tryz.prog W base spare held 22 v d p) :
    ∃ rs, RowSt W v rs := by
  obtain ⟨a, l, c, rfl⟩ := okWide_slice Tryz.underlying22 hv
  obtain ⟨fuel, hf0⟩ := h
  obtain ⟨v', rs, e, hR⟩ := openSts hf0
  simp [Value.cells] at e
  subst e
  exact ⟨rs, hR⟩
end
end Go.Proofs.YtjmkdpnoihpfoaaGreatDoor
