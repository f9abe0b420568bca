/- Texts of ours put together: Keep, Ret, Flat0, RowSn, RowPt, RowPts, RowCs, RowSt, RowOl. -/
import Derived.WalkKit
import Derived.Below
import Derived.WalkSmall
import Derived.RangeFuncRecord
import Derived.Test.YtkgkahlhekecmaaGreatRows
import Derived.ProofKit
import Derived.OpenShut
import Derived.ShutString
import Derived.ChangeOld
import Derived.WalkLawsBesides
import Derived.WalkSpells
import Derived.Deep.Light
import Derived.Handy
import Derived.Deep.OwnRows
import Derived.Deep.RegionHeld3
namespace Go.Proofs.YtkgkahlhekecmaaGreat
open Go.RowKit
theorem twice (w : World) (b o : Nat) (v v' : Value) : (w.setCell ⟨b, o, none⟩ v).setCell ⟨b, o, none⟩ v' = w.setCell ⟨b, o, none⟩ v' := by
  have hw : ∀ (W : World) (h h' : Array Obj), h = h' → ({ W with heap := h } : World) = { W with heap := h' } := by
    intro W h h' e
    rw [e]
  unfold World.setCell
  refine hw w _ _ ?_
  apply Array.ext_getElem?
  intro i
  simp only [Array.getElem?_modify]
  split
  · cases w.heap[i]? with
    | none => rfl
    | some x => cases x <;> simp
  · rfl
/-- All that lay in w lies in w' as it lay, but for block B. -/
structure Keep (B : Nat) (w w' : World) : Prop where
  os : w'.os = w.os
  tape : w'.tape = w.tape
  output : w'.output = w.output
  size : w.heap.size ≤ w'.heap.size
  block : ∀ k, k < w.heap.size → k ≠ B → w'.heap[k]? = w.heap[k]?
theorem Keep.refl (B : Nat) (w : World) : Keep B w w := ⟨rfl, rfl, rfl, Nat.le_refl _, fun _ _ _ => rfl⟩
theorem Keep.trans {B : Nat} {a b c : World} (h : Keep B a b) (k : Keep B b c) : Keep B a c :=
  ⟨k.os.trans h.os, k.tape.trans h.tape, k.output.trans h.output, Nat.le_trans h.size k.size, fun j hj hB => (k.block j (Nat.lt_of_lt_of_le hj h.size) hB).trans (h.block j hj hB)⟩
theorem Keep.drew {B : Nat} {a w : World} (h : Keep B a w) : Keep B a w.drew := ⟨h.os, h.tape, h.output, h.size, h.block⟩
theorem Keep.drewN {B : Nat} {a w : World} (h : Keep B a w) (n : Nat) : Keep B a (w.drewN n) := h.trans ⟨rfl, rfl, rfl, Nat.le_refl _, fun _ _ _ => rfl⟩
theorem Keep.setCell {B : Nat} {a w : World} (h : Keep B a w) (o : Nat) (u : Value) : Keep B a (w.setCell ⟨B, o, none⟩ u) :=
  h.trans ⟨rfl, rfl, rfl, by simp, fun k _ hB => Below.heap_setCell w ⟨B, o, none⟩ u k hB⟩
theorem Keep.of_below {B : Nat} {w w' : World} (h : Below w.heap.size w w') : Keep B w w' := ⟨h.os, h.tape, h.output, h.size, fun k hk _ => h.block k hk⟩
theorem Keep.alloc {B : Nat} {a w : World} (h : Keep B a w) (o : Obj) : Keep B a (w.alloc o) := h.trans (Keep.of_below ((Below.refl _ _).alloc (Nat.le_refl _) o))
theorem Keep.below {B N : Nat} {w w' : World} (h : Keep B w w') (hB : N ≤ B) (hN : N ≤ w.heap.size) : Below N w w' :=
  ⟨h.os, h.tape, h.output, h.size, fun k hk => h.block k (by omega) (by omega)⟩
theorem Keep.setNew {B : Nat} {a w : World} (h : Keep B a w) (b o : Nat) (hb : a.heap.size ≤ b) (u : Value) : Keep B a (w.setCell ⟨b, o, none⟩ u) :=
  ⟨h.os, h.tape, h.output, by simpa using h.size, fun k hk hB => (Below.heap_setCell w ⟨b, o, none⟩ u k (show k ≠ b by omega)).trans (h.block k hk hB)⟩
theorem cell_lt {w : World} {b o : Nat} {v : Value} (h : w.cell? ⟨b, o, none⟩ = some v) : b < w.heap.size := by
  rcases Nat.lt_or_ge b w.heap.size with g | g
  · exact g
  · simp [World.cell?, Array.getElem?_eq_none g] at h
theorem Keep.cell {B : Nat} {w w' : World} (h : Keep B w w') {b o : Nat} {v : Value} (hc : w.cell? ⟨b, o, none⟩ = some v) (hB : b ≠ B) : w'.cell? ⟨b, o, none⟩ = some v :=
  (World.cell?_of_block (w := w) (h.block b (cell_lt hc) hB)).trans hc
theorem Keep.frozen {B : Nat} {w w' : World} (h : Keep B w w') {b : Nat} (hb : b < w.heap.size) (o : Nat) (hB : b ≠ B) : w'.frozen? ⟨b, o, none⟩ = w.frozen? ⟨b, o, none⟩ :=
  World.frozen?_of_block (w := w) (h.block b hb hB)
theorem box4 {w W : World} {t : Nat} {a b c d : Int} (hb : Below (w.heap.size + 1) (w.alloc (.cells #[.int .i64 a, .int .i64 b, .int .i64 c, .int .i64 d] t)) W) :
    W.cell? ⟨w.heap.size, 0, none⟩ = some (.int .i64 a) ∧ W.cell? ⟨w.heap.size, 1, none⟩ = some (.int .i64 b) ∧ W.cell? ⟨w.heap.size, 2, none⟩ = some (.int .i64 c) ∧ W.cell? ⟨w.heap.size, 3, none⟩ = some (.int .i64 d) ∧ w.heap.size + 1 ≤ W.heap.size :=
  ⟨(hb.cell (p := ⟨w.heap.size, 0, none⟩) (Nat.lt_succ_self _)).trans (by simp [go_sem]), (hb.cell (p := ⟨w.heap.size, 1, none⟩) (Nat.lt_succ_self _)).trans (by simp [go_sem]), (hb.cell (p := ⟨w.heap.size, 2, none⟩) (Nat.lt_succ_self _)).trans (by simp [go_sem]), (hb.cell (p := ⟨w.heap.size, 3, none⟩) (Nat.lt_succ_self _)).trans (by simp [go_sem]), by have := hb.size; simpa using this⟩
theorem heap_new2 (w : World) (o o' : Obj) : ((w.alloc o).alloc o').heap[w.heap.size + 1]? = some o' := by
  have := World.alloc_heap_new (w.alloc o) o'
  rwa [World.size_alloc] at this
end Go.Proofs.YtkgkahlhekecmaaGreat
namespace Go.Proofs.YtkgkahlhekecmaaGreat
open Go.ChangeShapes Go.WideShapes Go.ChangeAt Go.RowKit
theorem ret_bool {a b : Bool} (h : a = b) : Ending.returned (.bool a) = .returned (.bool b) := by rw [h]
theorem ret_str {x y : ByteArray} (h : x = y) : Ending.returned (.string x) = .returned (.string y) := by rw [h]
end Go.Proofs.YtkgkahlhekecmaaGreat
namespace Go.Proofs.YtkgkahlhekecmaaGreat
open Go.ChangeShapes Go.WideShapes Go.ChangeAt Go.RowKit
theorem fl_three (w : World) (o0 o1 o2 : Obj) : (((w.alloc o0).alloc o1).alloc o2).heap[w.heap.size]? = some o0 ∧ (((w.alloc o0).alloc o1).alloc o2).heap[w.heap.size + 1]? = some o1 ∧ (((w.alloc o0).alloc o1).alloc o2).heap[w.heap.size + 1 + 1]? = some o2 := by
  have e : (((w.alloc o0).alloc o1).alloc o2).heap = ((w.heap.push o0).push o1).push o2 := rfl
  rw [e]
  simp only [Array.getElem?_push, Array.size_push]
  refine ⟨?_, ?_, ?_⟩
  · rw [if_neg (by omega), if_neg (by omega), if_pos trivial]
  · rw [if_neg (by omega), if_pos trivial]
  · rw [if_pos trivial]
theorem fl_row (w : World) (c : Array Value) (t n : Nat) (hn : c.size = n) : ∃ f, (w.alloc (.cells c t)).rowIs w.heap.size t n f := by
  subst hn
  exact ⟨fun i => c[i]?.getD undef, World.rowIs_alloc w c t _ (fun i hi => by simp [hi])⟩
theorem fl_addr (b o i : Nat) : (⟨b, o, none⟩ : Addr).add i = ⟨b, o + i, none⟩ := by unfold Addr.add; split <;> simp_all
end Go.Proofs.YtkgkahlhekecmaaGreat
namespace Go.Proofs.YtkgkahlhekecmaaGreat
open Go.ChangeShapes Go.WideShapes Go.ChangeAt Go.RowKit
/-- A Seen. -/
structure Sn where
  number : Int
  answer : Int
  code : Int
/-- Its cells. -/
def AtSn (W : World) (b o : Nat) (g : Sn) : Prop :=
  W.cell? ⟨b, o, none⟩ = some (.int .i64 g.number) ∧ W.cell? ⟨b, o + 1, none⟩ = some (.int .i64 g.answer) ∧ W.cell? ⟨b, o + 2, none⟩ = some (.int .i64 g.code)
theorem AtSn.below {W W' : World} {b o : Nat} {g : Sn} (h : AtSn W b o g) (hb : Below W.heap.size W W') : AtSn W' b o g := by
  obtain ⟨h0, h1, h2⟩ := h
  exact ⟨(hb.cell (cell_lt h0)).trans h0, (hb.cell (cell_lt h1)).trans h1, (hb.cell (cell_lt h2)).trans h2⟩
/-- A list of such. -/
structure RowSn (W : World) (v : Value) (rs : List Sn) : Prop where
  shape : ∃ a cap, v = .slice a rs.length cap ∧ (rs ≠ [] → ∃ b o, a = some ⟨b, o, none⟩ ∧ ∀ (i : Nat) (g : Sn), rs[i]? = some g → AtSn W b (o + i * 3) g)
  len : rs.length ≤ 9223372036854775807
theorem RowSn.below {W W' : World} {v : Value} {rs : List Sn} (h : RowSn W v rs) (hb : Below W.heap.size W W') : RowSn W' v rs := by
  obtain ⟨a, cap, e, hc⟩ := h.shape
  refine ⟨⟨a, cap, e, fun hn => ?_⟩, h.len⟩
  obtain ⟨b, o, ea, hcell⟩ := hc hn
  exact ⟨b, o, ea, fun i g hi => (hcell i g hi).below hb⟩
theorem RowSn.at {W : World} {v : Value} {rs : List Sn} (h : RowSn W v rs) {k : Nat} (hk : k < rs.length) : ∃ b o cap g, v = .slice (some ⟨b, o, none⟩) rs.length cap ∧ rs[k]? = some g ∧ AtSn W b (o + k * 3) g := by
  obtain ⟨a, cap, e, hc⟩ := h.shape
  obtain ⟨b, o, rfl, hcell⟩ := hc (by intro g; rw [g] at hk; simp at hk)
  have hs : rs[k]? = some rs[k] := List.getElem?_eq_getElem hk
  exact ⟨b, o, cap, _, e, hs, hcell k _ hs⟩
theorem RowSn.val {W : World} {v : Value} {rs : List Sn} (h : RowSn W v rs) : ∃ a cap, v = .slice a rs.length cap := by
  obtain ⟨a, cap, e, _⟩ := h.shape
  exact ⟨a, cap, e⟩
theorem RowSn.nil (W : World) : RowSn W (.slice none 0 0) [] := ⟨⟨none, 0, rfl, fun h => absurd rfl h⟩, by simp⟩
def BdSn (n : Nat) (rs : List Sn) : Prop := rs.length ≤ n
theorem BdSn.mono {m n : Nat} {rs : List Sn} (h : BdSn m rs) (hmn : m ≤ n) : BdSn n rs := Nat.le_trans h hmn
theorem BdSn.len {n : Nat} {rs : List Sn} (h : BdSn n rs) : rs.length ≤ n := h
/-- A list in a block of its own, b, whose row may be longer; nil if it has none. -/
structure LSn (b : Nat) (W : World) (v : Value) (rs : List Sn) : Prop where
  shape : ∃ a cap, v = .slice a rs.length cap ∧ (rs ≠ [] → a = some ⟨b, 0, none⟩ ∧ ∃ (n : Nat) (f : Nat → Value), W.rowIs b 148 n f ∧ rs.length * 3 ≤ n ∧ ∀ (i : Nat) (g : Sn), rs[i]? = some g → f (i * 3) = .int .i64 g.number ∧ f (i * 3 + 1) = .int .i64 g.answer ∧ f (i * 3 + 2) = .int .i64 g.code)
  len : rs.length ≤ 9223372036854775807
theorem LSn.row {b : Nat} {W : World} {v : Value} {rs : List Sn} (h : LSn b W v rs) : RowSn W v rs := by
  obtain ⟨a, cap, e, hc⟩ := h.shape
  refine ⟨⟨a, cap, e, fun hn => ?_⟩, h.len⟩
  obtain ⟨ea, m, f, hR, hm, hf⟩ := hc hn
  refine ⟨b, 0, ea, fun i g hi => ?_⟩
  have hlt := (List.getElem?_eq_some_iff.1 hi).1
  obtain ⟨e0, e1, e2⟩ := hf i g hi
  have c0 := hR.cell (i := i * 3) (by omega)
  rw [e0] at c0
  have c1 := hR.cell (i := i * 3 + 1) (by omega)
  rw [e1] at c1
  have c2 := hR.cell (i := i * 3 + 2) (by omega)
  rw [e2] at c2
  rw [Nat.zero_add]
  exact ⟨c0, c1, c2⟩
theorem LSn.of_block {b : Nat} {W W' : World} {v : Value} {rs : List Sn} (h : LSn b W v rs) (hb : rs ≠ [] → W'.heap[b]? = W.heap[b]?) : LSn b W' v rs := by
  obtain ⟨a, cap, e, hc⟩ := h.shape
  refine ⟨⟨a, cap, e, fun hn => ?_⟩, h.len⟩
  obtain ⟨ea, m, f, hR, hm, hf⟩ := hc hn
  exact ⟨ea, m, f, hR.of_block (hb hn), hm, hf⟩
theorem LSn.lt {b : Nat} {W : World} {v : Value} {rs : List Sn} (h : LSn b W v rs) (hn : rs ≠ []) : b < W.heap.size := by
  obtain ⟨a, cap, e, hc⟩ := h.shape
  obtain ⟨ea, m, f, hR, hm, hf⟩ := hc hn
  exact hR.lt
theorem LSn.below {b : Nat} {W W' : World} {v : Value} {rs : List Sn} (h : LSn b W v rs) (hb : Below W.heap.size W W') : LSn b W' v rs := h.of_block fun hn => hb.block b (h.lt hn)
theorem LSn.keep {b c : Nat} {W W' : World} {v : Value} {rs : List Sn} (h : LSn b W v rs) (hb : Keep c W W') (hne : b ≠ c) : LSn b W' v rs := h.of_block fun hn => hb.block b (h.lt hn) hne
theorem LSn.nil (b : Nat) (W : World) : LSn b W (.slice none 0 0) [] := ⟨⟨none, 0, rfl, fun h => absurd rfl h⟩, by simp⟩
theorem LSn.val {b : Nat} {W : World} {v : Value} {rs : List Sn} (h : LSn b W v rs) : ∃ a cap, v = .slice a rs.length cap := by
  obtain ⟨a, cap, e, _⟩ := h.shape
  exact ⟨a, cap, e⟩
end Go.Proofs.YtkgkahlhekecmaaGreat
namespace Go.Proofs.YtkgkahlhekecmaaGreat
open Go.ChangeShapes Go.WideShapes Go.ChangeAt Go.RowKit
/-- A Partner. -/
structure Ptn where
  name : ByteArray
  low : Int
  next : Int
  seen : List Sn
/-- What stands behind its cells. -/
structure RPt (W : World) (u : Value) (r : Ptn) : Prop where
  ls : RowSn W u r.seen
  z_name : r.name.size ≤ 9223372036854775807
theorem RPt.below {W W' : World} {u : Value} {r : Ptn} (h : RPt W u r) (hb : Below W.heap.size W W') : RPt W' u r := ⟨h.ls.below hb, h.z_name⟩
def BdPt (n : Nat) (r : Ptn) : Prop := r.name.size ≤ n ∧ BdSn n r.seen
theorem BdPt.mono {m n : Nat} {r : Ptn} (h : BdPt m r) (hmn : m ≤ n) : BdPt n r := ⟨Nat.le_trans h.1 hmn, BdSn.mono h.2 hmn⟩
end Go.Proofs.YtkgkahlhekecmaaGreat
namespace Go.Proofs.YtkgkahlhekecmaaGreat
open Go.ChangeShapes Go.WideShapes Go.ChangeAt Go.RowKit
def AtPt (W : World) (b o : Nat) (u : Value) (r : Ptn) : Prop :=
  W.cell? ⟨b, o, none⟩ = some (.string r.name) ∧ W.cell? ⟨b, o + 1, none⟩ = some (.int .i64 r.low) ∧ W.cell? ⟨b, o + 2, none⟩ = some (.int .i64 r.next) ∧ W.cell? ⟨b, o + 3, none⟩ = some (u)
theorem AtPt.below {W W' : World} {b o : Nat} {u : Value} {r : Ptn} (h : AtPt W b o u r) (hb : Below W.heap.size W W') : AtPt W' b o u r := by
  obtain ⟨h0, h1, h2, h3⟩ := h
  exact ⟨(hb.cell (cell_lt h0)).trans h0, (hb.cell (cell_lt h1)).trans h1, (hb.cell (cell_lt h2)).trans h2, (hb.cell (cell_lt h3)).trans h3⟩
/-- A list of such. -/
structure RowPt (W : World) (v : Value) (rs : List Ptn) : Prop where
  shape : ∃ a cap, v = .slice a rs.length cap ∧ (rs ≠ [] → ∃ b o, a = some ⟨b, o, none⟩ ∧ ∀ (i : Nat) (r : Ptn), rs[i]? = some r → ∃ u, AtPt W b (o + i * 4) u r ∧ RPt W u r)
  len : rs.length ≤ 9223372036854775807
theorem RowPt.below {W W' : World} {v : Value} {rs : List Ptn} (h : RowPt W v rs) (hb : Below W.heap.size W W') : RowPt W' v rs := by
  obtain ⟨a, cap, e, hc⟩ := h.shape
  refine ⟨⟨a, cap, e, fun hn => ?_⟩, h.len⟩
  obtain ⟨b, o, ea, hcell⟩ := hc hn
  refine ⟨b, o, ea, fun i r hi => ?_⟩
  obtain ⟨u, h1, h2⟩ := hcell i r hi
  exact ⟨u, h1.below hb, h2.below hb⟩
theorem RowPt.at {W : World} {v : Value} {rs : List Ptn} (h : RowPt W v rs) {k : Nat} (hk : k < rs.length) : ∃ b o cap r u, v = .slice (some ⟨b, o, none⟩) rs.length cap ∧ rs[k]? = some r ∧ AtPt W b (o + k * 4) u r ∧ RPt W u r := by
  obtain ⟨a, cap, e, hc⟩ := h.shape
  obtain ⟨b, o, rfl, hcell⟩ := hc (by intro g; rw [g] at hk; simp at hk)
  have hs : rs[k]? = some rs[k] := List.getElem?_eq_getElem hk
  obtain ⟨u, h1, h2⟩ := hcell k _ hs
  exact ⟨b, o, cap, _, u, e, hs, h1, h2⟩
theorem RowPt.val {W : World} {v : Value} {rs : List Ptn} (h : RowPt W v rs) : ∃ a cap, v = .slice a rs.length cap := by
  obtain ⟨a, cap, e, _⟩ := h.shape
  exact ⟨a, cap, e⟩
def BdsPt (n : Nat) (rs : List Ptn) : Prop := rs.length ≤ n ∧ ∀ (i : Nat) (r : Ptn), rs[i]? = some r → BdPt n r
theorem BdsPt.mono {m n : Nat} {rs : List Ptn} (h : BdsPt m rs) (hmn : m ≤ n) : BdsPt n rs := ⟨Nat.le_trans h.1 hmn, fun i r hi => (h.2 i r hi).mono hmn⟩
/-- How many numbers they have seen together. -/
def snP : List Ptn → Nat
  | [] => 0
  | p :: r => p.seen.length + snP r
theorem snP_app : ∀ (a b : List Ptn), snP (a ++ b) = snP a + snP b
  | [], b => by simp [snP]
  | p :: r, b => by
    simp only [List.cons_append, snP]
    rw [snP_app r b]
    omega
theorem snP_take_succ {ps : List Ptn} {j : Nat} {p : Ptn} (h : ps[j]? = some p) : snP (ps.take (j + 1)) = snP (ps.take j) + p.seen.length := by
  rw [List.take_add_one, h, snP_app]
  simp [snP]
end Go.Proofs.YtkgkahlhekecmaaGreat
namespace Go.Proofs.YtkgkahlhekecmaaGreat
open Go.ChangeShapes Go.WideShapes Go.ChangeAt Go.RowKit
/-- A Cross. -/
structure Crs where
  partner : ByteArray
  theirs : ByteArray
  own : ByteArray
/-- Its cells. -/
def AtCs (W : World) (b o : Nat) (g : Crs) : Prop :=
  W.cell? ⟨b, o, none⟩ = some (.string g.partner) ∧ W.cell? ⟨b, o + 1, none⟩ = some (.string g.theirs) ∧ W.cell? ⟨b, o + 2, none⟩ = some (.string g.own)
theorem AtCs.below {W W' : World} {b o : Nat} {g : Crs} (h : AtCs W b o g) (hb : Below W.heap.size W W') : AtCs W' b o g := by
  obtain ⟨h0, h1, h2⟩ := h
  exact ⟨(hb.cell (cell_lt h0)).trans h0, (hb.cell (cell_lt h1)).trans h1, (hb.cell (cell_lt h2)).trans h2⟩
/-- A list of such. -/
structure RowCs (W : World) (v : Value) (rs : List Crs) : Prop where
  shape : ∃ a cap, v = .slice a rs.length cap ∧ (rs ≠ [] → ∃ b o, a = some ⟨b, o, none⟩ ∧ ∀ (i : Nat) (g : Crs), rs[i]? = some g → AtCs W b (o + i * 3) g)
  len : rs.length ≤ 9223372036854775807
  sizes : ∀ (i : Nat) (g : Crs), rs[i]? = some g → g.partner.size ≤ 9223372036854775807 ∧ g.theirs.size ≤ 9223372036854775807 ∧ g.own.size ≤ 9223372036854775807
theorem RowCs.below {W W' : World} {v : Value} {rs : List Crs} (h : RowCs W v rs) (hb : Below W.heap.size W W') : RowCs W' v rs := by
  obtain ⟨a, cap, e, hc⟩ := h.shape
  refine ⟨⟨a, cap, e, fun hn => ?_⟩, h.len, h.sizes⟩
  obtain ⟨b, o, ea, hcell⟩ := hc hn
  exact ⟨b, o, ea, fun i g hi => (hcell i g hi).below hb⟩
theorem RowCs.at {W : World} {v : Value} {rs : List Crs} (h : RowCs W v rs) {k : Nat} (hk : k < rs.length) : ∃ b o cap g, v = .slice (some ⟨b, o, none⟩) rs.length cap ∧ rs[k]? = some g ∧ AtCs W b (o + k * 3) g ∧ g.partner.size ≤ 9223372036854775807 ∧ g.theirs.size ≤ 9223372036854775807 ∧ g.own.size ≤ 9223372036854775807 := by
  obtain ⟨a, cap, e, hc⟩ := h.shape
  obtain ⟨b, o, rfl, hcell⟩ := hc (by intro g; rw [g] at hk; simp at hk)
  have hs : rs[k]? = some rs[k] := List.getElem?_eq_getElem hk
  exact ⟨b, o, cap, _, e, hs, hcell k _ hs, h.sizes k _ hs⟩
theorem RowCs.val {W : World} {v : Value} {rs : List Crs} (h : RowCs W v rs) : ∃ a cap, v = .slice a rs.length cap := by
  obtain ⟨a, cap, e, _⟩ := h.shape
  exact ⟨a, cap, e⟩
theorem RowCs.nil (W : World) : RowCs W (.slice none 0 0) [] := ⟨⟨none, 0, rfl, fun h => absurd rfl h⟩, by simp, fun i g hi => by simp at hi⟩
def BdCs (n : Nat) (rs : List Crs) : Prop := rs.length ≤ n ∧ ∀ (i : Nat) (g : Crs), rs[i]? = some g → g.partner.size ≤ n ∧ g.theirs.size ≤ n ∧ g.own.size ≤ n
theorem BdCs.mono {m n : Nat} {rs : List Crs} (h : BdCs m rs) (hmn : m ≤ n) : BdCs n rs := ⟨Nat.le_trans h.1 hmn, fun i g hi => by
  have := h.2 i g hi
  omega⟩
theorem BdCs.len {n : Nat} {rs : List Crs} (h : BdCs n rs) : rs.length ≤ n := h.1
/-- A list in a block of its own, b, whose row may be longer; nil if it has none. -/
structure LCs (b : Nat) (W : World) (v : Value) (rs : List Crs) : Prop where
  shape : ∃ a cap, v = .slice a rs.length cap ∧ (rs ≠ [] → a = some ⟨b, 0, none⟩ ∧ ∃ (n : Nat) (f : Nat → Value), W.rowIs b 106 n f ∧ rs.length * 3 ≤ n ∧ ∀ (i : Nat) (g : Crs), rs[i]? = some g → f (i * 3) = .string g.partner ∧ f (i * 3 + 1) = .string g.theirs ∧ f (i * 3 + 2) = .string g.own)
  len : rs.length ≤ 9223372036854775807
  sizes : ∀ (i : Nat) (g : Crs), rs[i]? = some g → g.partner.size ≤ 9223372036854775807 ∧ g.theirs.size ≤ 9223372036854775807 ∧ g.own.size ≤ 9223372036854775807
theorem LCs.row {b : Nat} {W : World} {v : Value} {rs : List Crs} (h : LCs b W v rs) : RowCs W v rs := by
  obtain ⟨a, cap, e, hc⟩ := h.shape
  refine ⟨⟨a, cap, e, fun hn => ?_⟩, h.len, h.sizes⟩
  obtain ⟨ea, m, f, hR, hm, hf⟩ := hc hn
  refine ⟨b, 0, ea, fun i g hi => ?_⟩
  have hlt := (List.getElem?_eq_some_iff.1 hi).1
  obtain ⟨e0, e1, e2⟩ := hf i g hi
  have c0 := hR.cell (i := i * 3) (by omega)
  rw [e0] at c0
  have c1 := hR.cell (i := i * 3 + 1) (by omega)
  rw [e1] at c1
  have c2 := hR.cell (i := i * 3 + 2) (by omega)
  rw [e2] at c2
  rw [Nat.zero_add]
  exact ⟨c0, c1, c2⟩
theorem LCs.of_block {b : Nat} {W W' : World} {v : Value} {rs : List Crs} (h : LCs b W v rs) (hb : rs ≠ [] → W'.heap[b]? = W.heap[b]?) : LCs b W' v rs := by
  obtain ⟨a, cap, e, hc⟩ := h.shape
  refine ⟨⟨a, cap, e, fun hn => ?_⟩, h.len, h.sizes⟩
  obtain ⟨ea, m, f, hR, hm, hf⟩ := hc hn
  exact ⟨ea, m, f, hR.of_block (hb hn), hm, hf⟩
theorem LCs.lt {b : Nat} {W : World} {v : Value} {rs : List Crs} (h : LCs b W v rs) (hn : rs ≠ []) : b < W.heap.size := by
  obtain ⟨a, cap, e, hc⟩ := h.shape
  obtain ⟨ea, m, f, hR, hm, hf⟩ := hc hn
  exact hR.lt
theorem LCs.below {b : Nat} {W W' : World} {v : Value} {rs : List Crs} (h : LCs b W v rs) (hb : Below W.heap.size W W') : LCs b W' v rs := h.of_block fun hn => hb.block b (h.lt hn)
theorem LCs.keep {b c : Nat} {W W' : World} {v : Value} {rs : List Crs} (h : LCs b W v rs) (hb : Keep c W W') (hne : b ≠ c) : LCs b W' v rs := h.of_block fun hn => hb.block b (h.lt hn) hne
theorem LCs.nil (b : Nat) (W : World) : LCs b W (.slice none 0 0) [] := ⟨⟨none, 0, rfl, fun h => absurd rfl h⟩, by simp, fun i g hi => by simp at hi⟩
theorem LCs.val {b : Nat} {W : World} {v : Value} {rs : List Crs} (h : LCs b W v rs) : ∃ a cap, v = .slice a rs.length cap := by
  obtain ⟨a, cap, e, _⟩ := h.shape
  exact ⟨a, cap, e⟩
end Go.Proofs.YtkgkahlhekecmaaGreat
namespace Go.Proofs.YtkgkahlhekecmaaGreat
open Go.ChangeShapes Go.WideShapes Go.ChangeAt Go.RowKit
/-- A Stock. -/
structure Stk where
  item : ByteArray
  hand : Int
/-- Its cells. -/
def AtSt (W : World) (b o : Nat) (g : Stk) : Prop :=
  W.cell? ⟨b, o, none⟩ = some (.string g.item) ∧ W.cell? ⟨b, o + 1, none⟩ = some (.int .i64 g.hand)
theorem AtSt.below {W W' : World} {b o : Nat} {g : Stk} (h : AtSt W b o g) (hb : Below W.heap.size W W') : AtSt W' b o g := by
  obtain ⟨h0, h1⟩ := h
  exact ⟨(hb.cell (cell_lt h0)).trans h0, (hb.cell (cell_lt h1)).trans h1⟩
/-- A list of such. -/
structure RowSt (W : World) (v : Value) (rs : List Stk) : Prop where
  shape : ∃ a cap, v = .slice a rs.length cap ∧ (rs ≠ [] → ∃ b o, a = some ⟨b, o, none⟩ ∧ ∀ (i : Nat) (g : Stk), rs[i]? = some g → AtSt W b (o + i * 2) g)
  len : rs.length ≤ 9223372036854775807
  sizes : ∀ (i : Nat) (g : Stk), rs[i]? = some g → g.item.size ≤ 9223372036854775807
theorem RowSt.below {W W' : World} {v : Value} {rs : List Stk} (h : RowSt W v rs) (hb : Below W.heap.size W W') : RowSt W' v rs := by
  obtain ⟨a, cap, e, hc⟩ := h.shape
  refine ⟨⟨a, cap, e, fun hn => ?_⟩, h.len, h.sizes⟩
  obtain ⟨b, o, ea, hcell⟩ := hc hn
  exact ⟨b, o, ea, fun i g hi => (hcell i g hi).below hb⟩
theorem RowSt.at {W : World} {v : Value} {rs : List Stk} (h : RowSt W v rs) {k : Nat} (hk : k < rs.length) : ∃ b o cap g, v = .slice (some ⟨b, o, none⟩) rs.length cap ∧ rs[k]? = some g ∧ AtSt W b (o + k * 2) g ∧ g.item.size ≤ 9223372036854775807 := by
  obtain ⟨a, cap, e, hc⟩ := h.shape
  obtain ⟨b, o, rfl, hcell⟩ := hc (by intro g; rw [g] at hk; simp at hk)
  have hs : rs[k]? = some rs[k] := List.getElem?_eq_getElem hk
  exact ⟨b, o, cap, _, e, hs, hcell k _ hs, h.sizes k _ hs⟩
theorem RowSt.val {W : World} {v : Value} {rs : List Stk} (h : RowSt W v rs) : ∃ a cap, v = .slice a rs.length cap := by
  obtain ⟨a, cap, e, _⟩ := h.shape
  exact ⟨a, cap, e⟩
theorem RowSt.nil (W : World) : RowSt W (.slice none 0 0) [] := ⟨⟨none, 0, rfl, fun h => absurd rfl h⟩, by simp, fun i g hi => by simp at hi⟩
def BdSt (n : Nat) (rs : List Stk) : Prop := rs.length ≤ n ∧ ∀ (i : Nat) (g : Stk), rs[i]? = some g → g.item.size ≤ n
theorem BdSt.mono {m n : Nat} {rs : List Stk} (h : BdSt m rs) (hmn : m ≤ n) : BdSt n rs := ⟨Nat.le_trans h.1 hmn, fun i g hi => by
  have := h.2 i g hi
  omega⟩
theorem BdSt.len {n : Nat} {rs : List Stk} (h : BdSt n rs) : rs.length ≤ n := h.1
/-- A list in a block of its own, b, whose row may be longer; nil if it has none. -/
structure LSt (b : Nat) (W : World) (v : Value) (rs : List Stk) : Prop where
  shape : ∃ a cap, v = .slice a rs.length cap ∧ (rs ≠ [] → a = some ⟨b, 0, none⟩ ∧ ∃ (n : Nat) (f : Nat → Value), W.rowIs b 145 n f ∧ rs.length * 2 ≤ n ∧ ∀ (i : Nat) (g : Stk), rs[i]? = some g → f (i * 2) = .string g.item ∧ f (i * 2 + 1) = .int .i64 g.hand)
  len : rs.length ≤ 9223372036854775807
  sizes : ∀ (i : Nat) (g : Stk), rs[i]? = some g → g.item.size ≤ 9223372036854775807
theorem LSt.row {b : Nat} {W : World} {v : Value} {rs : List Stk} (h : LSt b W v rs) : RowSt W v rs := by
  obtain ⟨a, cap, e, hc⟩ := h.shape
  refine ⟨⟨a, cap, e, fun hn => ?_⟩, h.len, h.sizes⟩
  obtain ⟨ea, m, f, hR, hm, hf⟩ := hc hn
  refine ⟨b, 0, ea, fun i g hi => ?_⟩
  have hlt := (List.getElem?_eq_some_iff.1 hi).1
  obtain ⟨e0, e1⟩ := hf i g hi
  have c0 := hR.cell (i := i * 2) (by omega)
  rw [e0] at c0
  have c1 := hR.cell (i := i * 2 + 1) (by omega)
  rw [e1] at c1
  rw [Nat.zero_add]
  exact ⟨c0, c1⟩
theorem LSt.of_block {b : Nat} {W W' : World} {v : Value} {rs : List Stk} (h : LSt b W v rs) (hb : rs ≠ [] → W'.heap[b]? = W.heap[b]?) : LSt b W' v rs := by
  obtain ⟨a, cap, e, hc⟩ := h.shape
  refine ⟨⟨a, cap, e, fun hn => ?_⟩, h.len, h.sizes⟩
  obtain ⟨ea, m, f, hR, hm, hf⟩ := hc hn
  exact ⟨ea, m, f, hR.of_block (hb hn), hm, hf⟩
theorem LSt.lt {b : Nat} {W : World} {v : Value} {rs : List Stk} (h : LSt b W v rs) (hn : rs ≠ []) : b < W.heap.size := by
  obtain ⟨a, cap, e, hc⟩ := h.shape
  obtain ⟨ea, m, f, hR, hm, hf⟩ := hc hn
  exact hR.lt
theorem LSt.below {b : Nat} {W W' : World} {v : Value} {rs : List Stk} (h : LSt b W v rs) (hb : Below W.heap.size W W') : LSt b W' v rs := h.of_block fun hn => hb.block b (h.lt hn)
theorem LSt.keep {b c : Nat} {W W' : World} {v : Value} {rs : List Stk} (h : LSt b W v rs) (hb : Keep c W W') (hne : b ≠ c) : LSt b W' v rs := h.of_block fun hn => hb.block b (h.lt hn) hne
theorem LSt.nil (b : Nat) (W : World) : LSt b W (.slice none 0 0) [] := ⟨⟨none, 0, rfl, fun h => absurd rfl h⟩, by simp, fun i g hi => by simp at hi⟩
theorem LSt.val {b : Nat} {W : World} {v : Value} {rs : List Stk} (h : LSt b W v rs) : ∃ a cap, v = .slice a rs.length cap := by
  obtain ⟨a, cap, e, _⟩ := h.shape
  exact ⟨a, cap, e⟩
end Go.Proofs.YtkgkahlhekecmaaGreat
namespace Go.Proofs.YtkgkahlhekecmaaGreat
open Go.ChangeShapes Go.WideShapes Go.ChangeAt Go.RowKit
/-- A OrderLine. -/
structure OLn where
  partner : ByteArray
  ref : ByteArray
  no : Int
  item : ByteArray
  ordered : Int
  sent : Int
  got : Int
  cut : Int
/-- Its cells. -/
def AtOl (W : World) (b o : Nat) (g : OLn) : Prop :=
  W.cell? ⟨b, o, none⟩ = some (.string g.partner) ∧ W.cell? ⟨b, o + 1, none⟩ = some (.string g.ref) ∧ W.cell? ⟨b, o + 2, none⟩ = some (.int .i64 g.no) ∧ W.cell? ⟨b, o + 3, none⟩ = some (.string g.item) ∧ W.cell? ⟨b, o + 4, none⟩ = some (.int .i64 g.ordered) ∧ W.cell? ⟨b, o + 5, none⟩ = some (.int .i64 g.sent) ∧ W.cell? ⟨b, o + 6, none⟩ = some (.int .i64 g.got) ∧ W.cell? ⟨b, o + 7, none⟩ = some (.int .i64 g.cut)
theorem AtOl.below {W W' : World} {b o : Nat} {g : OLn} (h : AtOl W b o g) (hb : Below W.heap.size W W') : AtOl W' b o g := by
  obtain ⟨h0, h1, h2, h3, h4, h5, h6, h7⟩ := h
  exact ⟨(hb.cell (cell_lt h0)).trans h0, (hb.cell (cell_lt h1)).trans h1, (hb.cell (cell_lt h2)).trans h2, (hb.cell (cell_lt h3)).trans h3, (hb.cell (cell_lt h4)).trans h4, (hb.cell (cell_lt h5)).trans h5, (hb.cell (cell_lt h6)).trans h6, (hb.cell (cell_lt h7)).trans h7⟩
/-- A list of such. -/
structure RowOl (W : World) (v : Value) (rs : List OLn) : Prop where
  shape : ∃ a cap, v = .slice a rs.length cap ∧ (rs ≠ [] → ∃ b o, a = some ⟨b, o, none⟩ ∧ ∀ (i : Nat) (g : OLn), rs[i]? = some g → AtOl W b (o + i * 8) g)
  len : rs.length ≤ 9223372036854775807
  sizes : ∀ (i : Nat) (g : OLn), rs[i]? = some g → g.partner.size ≤ 9223372036854775807 ∧ g.ref.size ≤ 9223372036854775807 ∧ g.item.size ≤ 9223372036854775807
theorem RowOl.below {W W' : World} {v : Value} {rs : List OLn} (h : RowOl W v rs) (hb : Below W.heap.size W W') : RowOl W' v rs := by
  obtain ⟨a, cap, e, hc⟩ := h.shape
  refine ⟨⟨a, cap, e, fun hn => ?_⟩, h.len, h.sizes⟩
  obtain ⟨b, o, ea, hcell⟩ := hc hn
  exact ⟨b, o, ea, fun i g hi => (hcell i g hi).below hb⟩
theorem RowOl.at {W : World} {v : Value} {rs : List OLn} (h : RowOl W v rs) {k : Nat} (hk : k < rs.length) : ∃ b o cap g, v = .slice (some ⟨b, o, none⟩) rs.length cap ∧ rs[k]? = some g ∧ AtOl W b (o + k * 8) g ∧ g.partner.size ≤ 9223372036854775807 ∧ g.ref.size ≤ 9223372036854775807 ∧ g.item.size ≤ 9223372036854775807 := by
  obtain ⟨a, cap, e, hc⟩ := h.shape
  obtain ⟨b, o, rfl, hcell⟩ := hc (by intro g; rw [g] at hk; simp at hk)
  have hs : rs[k]? = some rs[k] := List.getElem?_eq_getElem hk
  exact ⟨b, o, cap, _, e, hs, hcell k _ hs, h.sizes k _ hs⟩
theorem RowOl.val {W : World} {v : Value} {rs : List OLn} (h : RowOl W v rs) : ∃ a cap, v = .slice a rs.length cap := by
  obtain ⟨a, cap, e, _⟩ := h.shape
  exact ⟨a, cap, e⟩
theorem RowOl.nil (W : World) : RowOl W (.slice none 0 0) [] := ⟨⟨none, 0, rfl, fun h => absurd rfl h⟩, by simp, fun i g hi => by simp at hi⟩
def BdOl (n : Nat) (rs : List OLn) : Prop := rs.length ≤ n ∧ ∀ (i : Nat) (g : OLn), rs[i]? = some g → g.partner.size ≤ n ∧ g.ref.size ≤ n ∧ g.item.size ≤ n
theorem BdOl.mono {m n : Nat} {rs : List OLn} (h : BdOl m rs) (hmn : m ≤ n) : BdOl n rs := ⟨Nat.le_trans h.1 hmn, fun i g hi => by
  have := h.2 i g hi
  omega⟩
theorem BdOl.len {n : Nat} {rs : List OLn} (h : BdOl n rs) : rs.length ≤ n := h.1
/-- A list in a block of its own, b, whose row may be longer; nil if it has none. -/
structure LOl (b : Nat) (W : World) (v : Value) (rs : List OLn) : Prop where
  shape : ∃ a cap, v = .slice a rs.length cap ∧ (rs ≠ [] → a = some ⟨b, 0, none⟩ ∧ ∃ (n : Nat) (f : Nat → Value), W.rowIs b 151 n f ∧ rs.length * 8 ≤ n ∧ ∀ (i : Nat) (g : OLn), rs[i]? = some g → f (i * 8) = .string g.partner ∧ f (i * 8 + 1) = .string g.ref ∧ f (i * 8 + 2) = .int .i64 g.no ∧ f (i * 8 + 3) = .string g.item ∧ f (i * 8 + 4) = .int .i64 g.ordered ∧ f (i * 8 + 5) = .int .i64 g.sent ∧ f (i * 8 + 6) = .int .i64 g.got ∧ f (i * 8 + 7) = .int .i64 g.cut)
  len : rs.length ≤ 9223372036854775807
  sizes : ∀ (i : Nat) (g : OLn), rs[i]? = some g → g.partner.size ≤ 9223372036854775807 ∧ g.ref.size ≤ 9223372036854775807 ∧ g.item.size ≤ 9223372036854775807
theorem LOl.row {b : Nat} {W : World} {v : Value} {rs : List OLn} (h : LOl b W v rs) : RowOl W v rs := by
  obtain ⟨a, cap, e, hc⟩ := h.shape
  refine ⟨⟨a, cap, e, fun hn => ?_⟩, h.len, h.sizes⟩
  obtain ⟨ea, m, f, hR, hm, hf⟩ := hc hn
  refine ⟨b, 0, ea, fun i g hi => ?_⟩
  have hlt := (List.getElem?_eq_some_iff.1 hi).1
  obtain ⟨e0, e1, e2, e3, e4, e5, e6, e7⟩ := hf i g hi
  have c0 := hR.cell (i := i * 8) (by omega)
  rw [e0] at c0
  have c1 := hR.cell (i := i * 8 + 1) (by omega)
  rw [e1] at c1
  have c2 := hR.cell (i := i * 8 + 2) (by omega)
  rw [e2] at c2
  have c3 := hR.cell (i := i * 8 + 3) (by omega)
  rw [e3] at c3
  have c4 := hR.cell (i := i * 8 + 4) (by omega)
  rw [e4] at c4
  have c5 := hR.cell (i := i * 8 + 5) (by omega)
  rw [e5] at c5
  have c6 := hR.cell (i := i * 8 + 6) (by omega)
  rw [e6] at c6
  have c7 := hR.cell (i := i * 8 + 7) (by omega)
  rw [e7] at c7
  rw [Nat.zero_add]
  exact ⟨c0, c1, c2, c3, c4, c5, c6, c7⟩
theorem LOl.of_block {b : Nat} {W W' : World} {v : Value} {rs : List OLn} (h : LOl b W v rs) (hb : rs ≠ [] → W'.heap[b]? = W.heap[b]?) : LOl b W' v rs := by
  obtain ⟨a, cap, e, hc⟩ := h.shape
  refine ⟨⟨a, cap, e, fun hn => ?_⟩, h.len, h.sizes⟩
  obtain ⟨ea, m, f, hR, hm, hf⟩ := hc hn
  exact ⟨ea, m, f, hR.of_block (hb hn), hm, hf⟩
theorem LOl.lt {b : Nat} {W : World} {v : Value} {rs : List OLn} (h : LOl b W v rs) (hn : rs ≠ []) : b < W.heap.size := by
  obtain ⟨a, cap, e, hc⟩ := h.shape
  obtain ⟨ea, m, f, hR, hm, hf⟩ := hc hn
  exact hR.lt
theorem LOl.below {b : Nat} {W W' : World} {v : Value} {rs : List OLn} (h : LOl b W v rs) (hb : Below W.heap.size W W') : LOl b W' v rs := h.of_block fun hn => hb.block b (h.lt hn)
theorem LOl.keep {b c : Nat} {W W' : World} {v : Value} {rs : List OLn} (h : LOl b W v rs) (hb : Keep c W W') (hne : b ≠ c) : LOl b W' v rs := h.of_block fun hn => hb.block b (h.lt hn) hne
theorem LOl.nil (b : Nat) (W : World) : LOl b W (.slice none 0 0) [] := ⟨⟨none, 0, rfl, fun h => absurd rfl h⟩, by simp, fun i g hi => by simp at hi⟩
theorem LOl.val {b : Nat} {W : World} {v : Value} {rs : List OLn} (h : LOl b W v rs) : ∃ a cap, v = .slice a rs.length cap := by
  obtain ⟨a, cap, e, _⟩ := h.shape
  exact ⟨a, cap, e⟩
end Go.Proofs.YtkgkahlhekecmaaGreat
