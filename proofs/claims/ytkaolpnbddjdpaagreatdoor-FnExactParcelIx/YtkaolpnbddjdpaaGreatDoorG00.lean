/- Texts of ours put together: Keep, Ret, IxPa, DeepRow, RowG, RowIx, PartB, RightGp, TagBs, TagB, RightG. -/
import Derived.WalkKit
import Derived.Below
import Derived.WalkSmall
import Derived.RangeFuncRecord
import Derived.Test.YtkaolpnbddjdpaaGreatDoorRows
import Derived.ProofKit
import Derived.OpenShut
import Derived.ShutString
import Derived.ChangeOld
import Derived.WalkLawsBesides
import Derived.WalkSpells
import Derived.Deep.Light
import Derived.Handy
import Derived.Deep.QuietTactic
import Derived.BigQuiet
import Derived.BigRegion
namespace Go.Proofs.YtkaolpnbddjdpaaGreatDoor
open Go.RowKit
/-- All that lay in w lies in w' as it lay, but for block B. -/
structure Keep (B : Nat) (w w' : World) : Prop where
  os : w'.os = w.os
  tape : w'.tape = w.tape
  output : w'.output = w.output
  size : w.heap.size ≤ w'.heap.size
  block : ∀ k, k < w.heap.size → k ≠ B → w'.heap[k]? = w.heap[k]?
theorem Keep.refl (B : Nat) (w : World) : Keep B w w := ⟨rfl, rfl, rfl, Nat.le_refl _, fun _ _ _ => rfl⟩
theorem Keep.trans {B : Nat} {a b c : World} (h : Keep B a b) (k : Keep B b c) : Keep B a c :=
  ⟨k.os.trans h.os, k.tape.trans h.tape, k.output.trans h.output, Nat.le_trans h.size k.size, fun j hj hB => (k.block j (Nat.lt_of_lt_of_le hj h.size) hB).trans (h.block j hj hB)⟩
theorem Keep.drew {B : Nat} {a w : World} (h : Keep B a w) : Keep B a w.drew := ⟨h.os, h.tape, h.output, h.size, h.block⟩
theorem Keep.drewN {B : Nat} {a w : World} (h : Keep B a w) (n : Nat) : Keep B a (w.drewN n) := h.trans ⟨rfl, rfl, rfl, Nat.le_refl _, fun _ _ _ => rfl⟩
theorem Keep.setCell {B : Nat} {a w : World} (h : Keep B a w) (o : Nat) (u : Value) : Keep B a (w.setCell ⟨B, o, none⟩ u) :=
  h.trans ⟨rfl, rfl, rfl, by simp, fun k _ hB => Below.heap_setCell w ⟨B, o, none⟩ u k hB⟩
theorem Keep.of_below {B : Nat} {w w' : World} (h : Below w.heap.size w w') : Keep B w w' := ⟨h.os, h.tape, h.output, h.size, fun k hk _ => h.block k hk⟩
theorem Keep.alloc {B : Nat} {a w : World} (h : Keep B a w) (o : Obj) : Keep B a (w.alloc o) := h.trans (Keep.of_below ((Below.refl _ _).alloc (Nat.le_refl _) o))
theorem Keep.below {B N : Nat} {w w' : World} (h : Keep B w w') (hB : N ≤ B) (hN : N ≤ w.heap.size) : Below N w w' :=
  ⟨h.os, h.tape, h.output, h.size, fun k hk => h.block k (by omega) (by omega)⟩
theorem cell_lt {w : World} {b o : Nat} {v : Value} (h : w.cell? ⟨b, o, none⟩ = some v) : b < w.heap.size := by
  rcases Nat.lt_or_ge b w.heap.size with g | g
  · exact g
  · simp [World.cell?, Array.getElem?_eq_none g] at h
theorem Keep.cell {B : Nat} {w w' : World} (h : Keep B w w') {b o : Nat} {v : Value} (hc : w.cell? ⟨b, o, none⟩ = some v) (hB : b ≠ B) : w'.cell? ⟨b, o, none⟩ = some v :=
  (World.cell?_of_block (w := w) (h.block b (cell_lt hc) hB)).trans hc
theorem Keep.frozen {B : Nat} {w w' : World} (h : Keep B w w') {b : Nat} (hb : b < w.heap.size) (o : Nat) (hB : b ≠ B) : w'.frozen? ⟨b, o, none⟩ = w.frozen? ⟨b, o, none⟩ :=
  World.frozen?_of_block (w := w) (h.block b hb hB)
theorem box4 {w W : World} {t : Nat} {a b c d : Int} (hb : Below (w.heap.size + 1) (w.alloc (.cells #[.int .i64 a, .int .i64 b, .int .i64 c, .int .i64 d] t)) W) :
    W.cell? ⟨w.heap.size, 0, none⟩ = some (.int .i64 a) ∧ W.cell? ⟨w.heap.size, 1, none⟩ = some (.int .i64 b) ∧ W.cell? ⟨w.heap.size, 2, none⟩ = some (.int .i64 c) ∧ W.cell? ⟨w.heap.size, 3, none⟩ = some (.int .i64 d) ∧ w.heap.size + 1 ≤ W.heap.size :=
  ⟨(hb.cell (p := ⟨w.heap.size, 0, none⟩) (Nat.lt_succ_self _)).trans (by simp [go_sem]), (hb.cell (p := ⟨w.heap.size, 1, none⟩) (Nat.lt_succ_self _)).trans (by simp [go_sem]), (hb.cell (p := ⟨w.heap.size, 2, none⟩) (Nat.lt_succ_self _)).trans (by simp [go_sem]), (hb.cell (p := ⟨w.heap.size, 3, none⟩) (Nat.lt_succ_self _)).trans (by simp [go_sem]), by have := hb.size; simpa using this⟩
theorem heap_new2 (w : World) (o o' : Obj) : ((w.alloc o).alloc o').heap[w.heap.size + 1]? = some o' := by
  have := World.alloc_heap_new (w.alloc o) o'
  rwa [World.size_alloc] at this
end Go.Proofs.YtkaolpnbddjdpaaGreatDoor
namespace Go.Proofs.YtkaolpnbddjdpaaGreatDoor
open Go.ChangeShapes Go.WideShapes Go.ChangeAt Go.RowKit
theorem ret_bool {a b : Bool} (h : a = b) : Ending.returned (.bool a) = .returned (.bool b) := by rw [h]
theorem ret_str {x y : ByteArray} (h : x = y) : Ending.returned (.string x) = .returned (.string y) := by rw [h]
end Go.Proofs.YtkaolpnbddjdpaaGreatDoor
namespace Go.Proofs.YtkaolpnbddjdpaaGreatDoor
open Go.ChangeShapes Go.WideShapes Go.ChangeAt Go.RowKit
theorem toList_neq {s t : ByteArray} (h : s ≠ t) : (s.toList == t.toList) = false ∧ (s.toList != t.toList) = true ∧ ¬ s.toList = t.toList := by
  have h0 : ¬ s.toList = t.toList := fun e => h (by rw [ByteArray.toList_eq, ByteArray.toList_eq] at e; exact ByteArray.ext (Array.toList_inj.1 e))
  exact ⟨by rw [beq_eq_false_iff_ne]; exact h0, by rw [bne_iff_ne]; exact h0, h0⟩
theorem toList_neq3 {s : ByteArray} {a b c : UInt8} (h : s ≠ ⟨#[a, b, c]⟩) : (s.toList == [a, b, c]) = false ∧ (s.toList != [a, b, c]) = true ∧ ¬ s.toList = [a, b, c] := by
  have e : (⟨#[a, b, c]⟩ : ByteArray).toList = [a, b, c] := by rw [ByteArray.toList_eq]
  have := toList_neq h
  rwa [e] at this
end Go.Proofs.YtkaolpnbddjdpaaGreatDoor
namespace Go.Proofs.YtkaolpnbddjdpaaGreatDoor
open Go.ChangeShapes Go.WideShapes Go.ChangeAt Go.RowKit
/-- A list of texts. -/
structure RowS (W : World) (v : Value) (ss : List ByteArray) : Prop where
  shape : ∃ a cap, v = .slice a ss.length cap ∧ (ss ≠ [] → ∃ b o, a = some ⟨b, o, none⟩ ∧ ∀ (i : Nat) (s : ByteArray), ss[i]? = some s → W.cell? ⟨b, o + i, none⟩ = some (.string s))
  len : ss.length ≤ 9223372036854775807
  sizes : ∀ (i : Nat) (s : ByteArray), ss[i]? = some s → s.size ≤ 9223372036854775807
theorem RowS.below {W W' : World} {v : Value} {ss : List ByteArray} (h : RowS W v ss) (hb : Below W.heap.size W W') : RowS W' v ss := by
  obtain ⟨a, cap, e, hc⟩ := h.shape
  refine ⟨⟨a, cap, e, fun hn => ?_⟩, h.len, h.sizes⟩
  obtain ⟨b, o, ea, hcell⟩ := hc hn
  exact ⟨b, o, ea, fun i s hi => (hb.cell (p := ⟨b, o + i, none⟩) (cell_lt (hcell i s hi))).trans (hcell i s hi)⟩
theorem RowS.at {W : World} {v : Value} {ss : List ByteArray} (h : RowS W v ss) {k : Nat} (hk : k < ss.length) : ∃ b o cap s, v = .slice (some ⟨b, o, none⟩) ss.length cap ∧ ss[k]? = some s ∧ W.cell? ⟨b, o + k, none⟩ = some (.string s) ∧ s.size ≤ 9223372036854775807 := by
  obtain ⟨a, cap, e, hc⟩ := h.shape
  obtain ⟨b, o, rfl, hcell⟩ := hc (by intro g; rw [g] at hk; simp at hk)
  have hs : ss[k]? = some ss[k] := List.getElem?_eq_getElem hk
  exact ⟨b, o, cap, _, e, hs, hcell k _ hs, h.sizes k _ hs⟩
/-- A list of elements, each a list of texts. -/
structure RowE (W : World) (v : Value) (es : List (List ByteArray)) : Prop where
  shape : ∃ a cap, v = .slice a es.length cap ∧ (es ≠ [] → ∃ b o, a = some ⟨b, o, none⟩ ∧ ∀ (i : Nat) (e : List ByteArray), es[i]? = some e → ∃ u, W.cell? ⟨b, o + i, none⟩ = some u ∧ RowS W u e)
  len : es.length ≤ 9223372036854775807
theorem RowE.below {W W' : World} {v : Value} {es : List (List ByteArray)} (h : RowE W v es) (hb : Below W.heap.size W W') : RowE W' v es := by
  obtain ⟨a, cap, e, hc⟩ := h.shape
  refine ⟨⟨a, cap, e, fun hn => ?_⟩, h.len⟩
  obtain ⟨b, o, ea, hcell⟩ := hc hn
  refine ⟨b, o, ea, fun i s hi => ?_⟩
  obtain ⟨u, h1, h2⟩ := hcell i s hi
  exact ⟨u, (hb.cell (p := ⟨b, o + i, none⟩) (cell_lt h1)).trans h1, h2.below hb⟩
theorem RowE.at {W : World} {v : Value} {es : List (List ByteArray)} (h : RowE W v es) {k : Nat} (hk : k < es.length) : ∃ b o cap e u, v = .slice (some ⟨b, o, none⟩) es.length cap ∧ es[k]? = some e ∧ W.cell? ⟨b, o + k, none⟩ = some u ∧ RowS W u e := by
  obtain ⟨a, cap, e, hc⟩ := h.shape
  obtain ⟨b, o, rfl, hcell⟩ := hc (by intro g; rw [g] at hk; simp at hk)
  have hs : es[k]? = some es[k] := List.getElem?_eq_getElem hk
  obtain ⟨u, h1, h2⟩ := hcell k _ hs
  exact ⟨b, o, cap, _, u, e, hs, h1, h2⟩
theorem RowS.val {W : World} {v : Value} {ss : List ByteArray} (h : RowS W v ss) : ∃ a cap, v = .slice a ss.length cap := by
  obtain ⟨a, cap, e, _⟩ := h.shape
  exact ⟨a, cap, e⟩
theorem RowE.val {W : World} {v : Value} {es : List (List ByteArray)} (h : RowE W v es) : ∃ a cap, v = .slice a es.length cap := by
  obtain ⟨a, cap, e, _⟩ := h.shape
  exact ⟨a, cap, e⟩
/-- Bounded sizes. -/
def BdS (n : Nat) (ss : List ByteArray) : Prop := ss.length ≤ n ∧ ∀ (i : Nat) (s : ByteArray), ss[i]? = some s → s.size ≤ n
def BdE (n : Nat) (es : List (List ByteArray)) : Prop := es.length ≤ n ∧ ∀ (i : Nat) (e : List ByteArray), es[i]? = some e → BdS n e
end Go.Proofs.YtkaolpnbddjdpaaGreatDoor
namespace Go.Proofs.YtkaolpnbddjdpaaGreatDoor
open Go.ChangeShapes Go.WideShapes Go.ChangeAt Go.RowKit
abbrev Seg := ByteArray × List (List ByteArray)
/-- A list of segments. -/
structure RowG (W : World) (v : Value) (gs : List Seg) : Prop where
  shape : ∃ a cap, v = .slice a gs.length cap ∧ (gs ≠ [] → ∃ b o, a = some ⟨b, o, none⟩ ∧ ∀ (i : Nat) (g : Seg), gs[i]? = some g → W.cell? ⟨b, o + i * 2, none⟩ = some (.string g.1) ∧ ∃ u, W.cell? ⟨b, o + i * 2 + 1, none⟩ = some u ∧ RowE W u g.2)
  len : gs.length ≤ 9223372036854775807
  sizes : ∀ (i : Nat) (g : Seg), gs[i]? = some g → g.1.size ≤ 9223372036854775807
theorem RowG.below {W W' : World} {v : Value} {gs : List Seg} (h : RowG W v gs) (hb : Below W.heap.size W W') : RowG W' v gs := by
  obtain ⟨a, cap, e, hc⟩ := h.shape
  refine ⟨⟨a, cap, e, fun hn => ?_⟩, h.len, h.sizes⟩
  obtain ⟨b, o, ea, hcell⟩ := hc hn
  refine ⟨b, o, ea, fun i g hi => ?_⟩
  obtain ⟨h1, u, h2, h3⟩ := hcell i g hi
  exact ⟨(hb.cell (p := ⟨b, o + i * 2, none⟩) (cell_lt h1)).trans h1, u, (hb.cell (p := ⟨b, o + i * 2 + 1, none⟩) (cell_lt h2)).trans h2, h3.below hb⟩
theorem RowG.at {W : World} {v : Value} {gs : List Seg} (h : RowG W v gs) {k : Nat} (hk : k < gs.length) : ∃ b o cap g u, v = .slice (some ⟨b, o, none⟩) gs.length cap ∧ gs[k]? = some g ∧ W.cell? ⟨b, o + k * 2, none⟩ = some (.string g.1) ∧ W.cell? ⟨b, o + k * 2 + 1, none⟩ = some u ∧ RowE W u g.2 ∧ g.1.size ≤ 9223372036854775807 := by
  obtain ⟨a, cap, e, hc⟩ := h.shape
  obtain ⟨b, o, rfl, hcell⟩ := hc (by intro g; rw [g] at hk; simp at hk)
  have hs : gs[k]? = some gs[k] := List.getElem?_eq_getElem hk
  obtain ⟨h1, u, h2, h3⟩ := hcell k _ hs
  exact ⟨b, o, cap, _, u, e, hs, h1, h2, h3, h.sizes k _ hs⟩
theorem RowG.val {W : World} {v : Value} {gs : List Seg} (h : RowG W v gs) : ∃ a cap, v = .slice a gs.length cap := by
  obtain ⟨a, cap, e, _⟩ := h.shape
  exact ⟨a, cap, e⟩
def BdG (n : Nat) (gs : List Seg) : Prop := gs.length ≤ n ∧ ∀ (i : Nat) (g : Seg), gs[i]? = some g → g.1.size ≤ n ∧ BdE n g.2
end Go.Proofs.YtkaolpnbddjdpaaGreatDoor
namespace Go.Proofs.YtkaolpnbddjdpaaGreatDoor
open Go.ChangeShapes Go.WideShapes Go.ChangeAt Go.RowKit
theorem BdS.mono' {m n : Nat} {ss : List ByteArray} (h : BdS m ss) (hmn : m ≤ n) : BdS n ss := ⟨Nat.le_trans h.1 hmn, fun i s hi => Nat.le_trans (h.2 i s hi) hmn⟩
theorem BdG.mono {m n : Nat} {gs : List Seg} (h : BdG m gs) (hmn : m ≤ n) : BdG n gs := ⟨Nat.le_trans h.1 hmn, fun i g hi => ⟨Nat.le_trans (h.2 i g hi).1 hmn, Nat.le_trans (h.2 i g hi).2.1 hmn, fun j e hj => ((h.2 i g hi).2.2 j e hj).mono' hmn⟩⟩
/-- A Message. -/
structure Msg where
  num : Int
  body : List Seg
/-- What stands behind its cells. -/
structure RM (W : World) (u : Value) (r : Msg) : Prop where
  ls : RowG W u r.body
theorem RM.below {W W' : World} {u : Value} {r : Msg} (h : RM W u r) (hb : Below W.heap.size W W') : RM W' u r := ⟨h.ls.below hb⟩
def BdM (n : Nat) (r : Msg) : Prop := BdG n r.body
theorem BdM.mono {m n : Nat} {r : Msg} (h : BdM m r) (hmn : m ≤ n) : BdM n r := BdG.mono h hmn
def AtM (W : World) (b o : Nat) (u : Value) (r : Msg) : Prop :=
  W.cell? ⟨b, o, none⟩ = some (.int .i64 r.num) ∧ W.cell? ⟨b, o + 1, none⟩ = some (u)
theorem AtM.below {W W' : World} {b o : Nat} {u : Value} {r : Msg} (h : AtM W b o u r) (hb : Below W.heap.size W W') : AtM W' b o u r := by
  obtain ⟨h0, h1⟩ := h
  exact ⟨(hb.cell (cell_lt h0)).trans h0, (hb.cell (cell_lt h1)).trans h1⟩
/-- A list of such. -/
structure RowM (W : World) (v : Value) (rs : List Msg) : Prop where
  shape : ∃ a cap, v = .slice a rs.length cap ∧ (rs ≠ [] → ∃ b o, a = some ⟨b, o, none⟩ ∧ ∀ (i : Nat) (r : Msg), rs[i]? = some r → ∃ u, AtM W b (o + i * 2) u r ∧ RM W u r)
  len : rs.length ≤ 9223372036854775807
theorem RowM.below {W W' : World} {v : Value} {rs : List Msg} (h : RowM W v rs) (hb : Below W.heap.size W W') : RowM W' v rs := by
  obtain ⟨a, cap, e, hc⟩ := h.shape
  refine ⟨⟨a, cap, e, fun hn => ?_⟩, h.len⟩
  obtain ⟨b, o, ea, hcell⟩ := hc hn
  refine ⟨b, o, ea, fun i r hi => ?_⟩
  obtain ⟨u, h1, h2⟩ := hcell i r hi
  exact ⟨u, h1.below hb, h2.below hb⟩
theorem RowM.at {W : World} {v : Value} {rs : List Msg} (h : RowM W v rs) {k : Nat} (hk : k < rs.length) : ∃ b o cap r u, v = .slice (some ⟨b, o, none⟩) rs.length cap ∧ rs[k]? = some r ∧ AtM W b (o + k * 2) u r ∧ RM W u r := by
  obtain ⟨a, cap, e, hc⟩ := h.shape
  obtain ⟨b, o, rfl, hcell⟩ := hc (by intro g; rw [g] at hk; simp at hk)
  have hs : rs[k]? = some rs[k] := List.getElem?_eq_getElem hk
  obtain ⟨u, h1, h2⟩ := hcell k _ hs
  exact ⟨b, o, cap, _, u, e, hs, h1, h2⟩
theorem RowM.val {W : World} {v : Value} {rs : List Msg} (h : RowM W v rs) : ∃ a cap, v = .slice a rs.length cap := by
  obtain ⟨a, cap, e, _⟩ := h.shape
  exact ⟨a, cap, e⟩
def BdsM (n : Nat) (rs : List Msg) : Prop := rs.length ≤ n ∧ ∀ (i : Nat) (r : Msg), rs[i]? = some r → BdM n r
theorem BdsM.mono {m n : Nat} {rs : List Msg} (h : BdsM m rs) (hmn : m ≤ n) : BdsM n rs := ⟨Nat.le_trans h.1 hmn, fun i r hi => (h.2 i r hi).mono hmn⟩
/-- A Bundle. -/
structure Bun where
  kind : Int
  num : Int
  msgs : List Msg
/-- What stands behind its cells. -/
structure RB (W : World) (u : Value) (r : Bun) : Prop where
  ls : RowM W u r.msgs
theorem RB.below {W W' : World} {u : Value} {r : Bun} (h : RB W u r) (hb : Below W.heap.size W W') : RB W' u r := ⟨h.ls.below hb⟩
def BdB (n : Nat) (r : Bun) : Prop := BdsM n r.msgs
theorem BdB.mono {m n : Nat} {r : Bun} (h : BdB m r) (hmn : m ≤ n) : BdB n r := BdsM.mono h hmn
def AtB (W : World) (b o : Nat) (u : Value) (r : Bun) : Prop :=
  W.cell? ⟨b, o, none⟩ = some (.int .i64 r.kind) ∧ W.cell? ⟨b, o + 1, none⟩ = some (.int .i64 r.num) ∧ W.cell? ⟨b, o + 2, none⟩ = some (u)
theorem AtB.below {W W' : World} {b o : Nat} {u : Value} {r : Bun} (h : AtB W b o u r) (hb : Below W.heap.size W W') : AtB W' b o u r := by
  obtain ⟨h0, h1, h2⟩ := h
  exact ⟨(hb.cell (cell_lt h0)).trans h0, (hb.cell (cell_lt h1)).trans h1, (hb.cell (cell_lt h2)).trans h2⟩
/-- A list of such. -/
structure RowB (W : World) (v : Value) (rs : List Bun) : Prop where
  shape : ∃ a cap, v = .slice a rs.length cap ∧ (rs ≠ [] → ∃ b o, a = some ⟨b, o, none⟩ ∧ ∀ (i : Nat) (r : Bun), rs[i]? = some r → ∃ u, AtB W b (o + i * 3) u r ∧ RB W u r)
  len : rs.length ≤ 9223372036854775807
theorem RowB.below {W W' : World} {v : Value} {rs : List Bun} (h : RowB W v rs) (hb : Below W.heap.size W W') : RowB W' v rs := by
  obtain ⟨a, cap, e, hc⟩ := h.shape
  refine ⟨⟨a, cap, e, fun hn => ?_⟩, h.len⟩
  obtain ⟨b, o, ea, hcell⟩ := hc hn
  refine ⟨b, o, ea, fun i r hi => ?_⟩
  obtain ⟨u, h1, h2⟩ := hcell i r hi
  exact ⟨u, h1.below hb, h2.below hb⟩
theorem RowB.at {W : World} {v : Value} {rs : List Bun} (h : RowB W v rs) {k : Nat} (hk : k < rs.length) : ∃ b o cap r u, v = .slice (some ⟨b, o, none⟩) rs.length cap ∧ rs[k]? = some r ∧ AtB W b (o + k * 3) u r ∧ RB W u r := by
  obtain ⟨a, cap, e, hc⟩ := h.shape
  obtain ⟨b, o, rfl, hcell⟩ := hc (by intro g; rw [g] at hk; simp at hk)
  have hs : rs[k]? = some rs[k] := List.getElem?_eq_getElem hk
  obtain ⟨u, h1, h2⟩ := hcell k _ hs
  exact ⟨b, o, cap, _, u, e, hs, h1, h2⟩
theorem RowB.val {W : World} {v : Value} {rs : List Bun} (h : RowB W v rs) : ∃ a cap, v = .slice a rs.length cap := by
  obtain ⟨a, cap, e, _⟩ := h.shape
  exact ⟨a, cap, e⟩
def BdsB (n : Nat) (rs : List Bun) : Prop := rs.length ≤ n ∧ ∀ (i : Nat) (r : Bun), rs[i]? = some r → BdB n r
theorem BdsB.mono {m n : Nat} {rs : List Bun} (h : BdsB m rs) (hmn : m ≤ n) : BdsB n rs := ⟨Nat.le_trans h.1 hmn, fun i r hi => (h.2 i r hi).mono hmn⟩
/-- A Interchange. -/
structure Ixc where
  frm : ByteArray
  to : ByteArray
  num : Int
  buns : List Bun
/-- What stands behind its cells. -/
structure RI (W : World) (u : Value) (r : Ixc) : Prop where
  ls : RowB W u r.buns
  z_frm : r.frm.size ≤ 9223372036854775807
  z_to : r.to.size ≤ 9223372036854775807
theorem RI.below {W W' : World} {u : Value} {r : Ixc} (h : RI W u r) (hb : Below W.heap.size W W') : RI W' u r := ⟨h.ls.below hb, h.z_frm, h.z_to⟩
def BdI (n : Nat) (r : Ixc) : Prop := r.frm.size ≤ n ∧ r.to.size ≤ n ∧ BdsB n r.buns
theorem BdI.mono {m n : Nat} {r : Ixc} (h : BdI m r) (hmn : m ≤ n) : BdI n r := ⟨Nat.le_trans h.1 hmn, Nat.le_trans h.2.1 hmn, BdsB.mono h.2.2 hmn⟩
end Go.Proofs.YtkaolpnbddjdpaaGreatDoor
namespace Go.Proofs.YtkaolpnbddjdpaaGreatDoor
open Go.ChangeShapes Go.WideShapes Go.ChangeAt Go.RowKit
/-- Are all bytes within these limits? -/
def rngB (lo hi : Nat) (t : ByteArray) : Bool := t.data.toList.all fun x => decide (lo ≤ x.toNat) && decide (x.toNat ≤ hi)
theorem rngB_yes {lo hi : Nat} {t : ByteArray} (h : ∀ (j : Nat) (hj : j < t.size), lo ≤ (t[j]'hj).toNat ∧ (t[j]'hj).toNat ≤ hi) : rngB lo hi t = true := by
  unfold rngB
  rw [List.all_eq_true]
  intro x hx
  obtain ⟨j, hj, rfl⟩ := List.mem_iff_getElem.1 hx
  have := h j (by simpa using hj)
  simp only [Bool.and_eq_true, decide_eq_true_eq]
  exact this
theorem rngB_no {lo hi : Nat} {t : ByteArray} (j : Nat) (hj : j < t.size) (h : (t[j]'hj).toNat < lo ∨ hi < (t[j]'hj).toNat) : rngB lo hi t = false := by
  unfold rngB
  rw [List.all_eq_false]
  refine ⟨t[j]'hj, ?_, ?_⟩
  · have hj' : j < t.data.toList.length := by simpa using hj
    exact List.mem_iff_getElem.2 ⟨j, hj', rfl⟩
  · simp only [Bool.and_eq_true, decide_eq_true_eq]
    omega
def tagB (t : ByteArray) : Bool := decide (t.size = 3) && rngB 65 90 t
def partB (t : ByteArray) : Bool := decide (t.size ≤ 40) && rngB 32 126 t
set_option maxHeartbeats 1000000 in
theorem isPart_any (t : ByteArray) (w : World) : Calls Tryz.prog 168 #[.string t] w fun e w' => e = .returned (.bool (partB t)) ∧ w' = w := by
  by_cases hs : t.size ≤ 40
  · have hB : partB t = rngB 32 126 t := by simp [partB, hs]
    rw [hB]
    have hs' : ¬ (40 : Int) < (t.size : Int) := by omega
    have hs2 : (t.size : Int) ≤ 40 := by omega
    go_enter Tryz.func168, Tryz.ntmps168
    go_wp2
    go_loopw [9] (fun i wr => ∃ k : Nat, i = .int .i64 (k : Int) ∧ k ≤ t.size ∧ (∀ (j : Nat) (hj : j < t.size), j < k → 32 ≤ (t[j]'hj).toNat ∧ (t[j]'hj).toNat ≤ 126) ∧ wr = w) (fun i _ => t.size - (intOf i).toNat)
    case atStart => exact ⟨0, rfl, by omega, fun j hj h => by omega, rfl⟩
    case round =>
      obtain ⟨k, rfl, hk, hA, rfl⟩ := hrel
      have HA : Hid (∀ (j : Nat) (hj : j < t.size), j < k → 32 ≤ (t[j]'hj).toNat ∧ (t[j]'hj).toNat ≤ 126) := hA
      clear hA
      by_cases hlt : k < t.size
      · have hlt' : (k : Int) < (t.size : Int) := by omega
        skip
        have hx0 : 0 ≤ ((t[k]'hlt).toNat : Int) := by omega
        have hx1 : ((t[k]'hlt).toNat : Int) ≤ 255 := by have := (t[k]'hlt).toNat_lt; omega
        by_cases hlo : ((t[k]'hlt).toNat : Int) < 32
        · have d1 : decide (((t[k]'hlt).toNat : Int) < 32) = true := by simpa using hlo
          go_wp2
          go_ret
          exact ⟨ret_bool (rngB_no k hlt (by omega)).symm, rfl⟩
        · have d1 : decide (((t[k]'hlt).toNat : Int) < 32) = false := by simpa using hlo
          by_cases hhi : 126 < ((t[k]'hlt).toNat : Int)
          · have d2 : decide (126 < ((t[k]'hlt).toNat : Int)) = true := by simpa using hhi
            go_wp2
            go_ret
            exact ⟨ret_bool (rngB_no k hlt (by omega)).symm, rfl⟩
          · have d2 : decide (126 < ((t[k]'hlt).toNat : Int)) = false := by simpa using hhi
            go_wp2
            go_roundw
            case rel =>
              refine ⟨k + 1, by go_num, by omega, fun j hj h => ?_, trivial⟩
              rcases Nat.lt_or_ge j k with g | g
              · exact HA.out j hj g
              · obtain rfl : j = k := by omega
                omega
            case measure => simp [intOf]; omega
      · obtain rfl : k = t.size := by omega
        skip
        go_wp2
        go_ret
        exact ⟨ret_bool (rngB_yes fun j hj => HA.out j hj hj).symm, rfl⟩
  · have hB : partB t = false := by simp [partB, hs]
    rw [hB]
    have hs' : (40 : Int) < (t.size : Int) := by omega
    go_enter Tryz.func168, Tryz.ntmps168
    go_wp2
    go_ret
    exact ⟨rfl, rfl⟩
set_option maxHeartbeats 1000000 in
theorem l02Part_any (t : ByteArray) (w : World) : Calls Tryz.prog 98 #[.string t] w fun e w' => e = .returned (.bool (partB t)) ∧ w' = w := by
  by_cases hs : t.size ≤ 40
  · have hB : partB t = rngB 32 126 t := by simp [partB, hs]
    rw [hB]
    have hs' : ¬ (40 : Int) < (t.size : Int) := by omega
    have hs2 : (t.size : Int) ≤ 40 := by omega
    go_enter Tryz.func98, Tryz.ntmps98
    go_wp2
    go_loopw [3] (fun i wr => ∃ k : Nat, i = .int .i64 (k : Int) ∧ k ≤ t.size ∧ (∀ (j : Nat) (hj : j < t.size), j < k → 32 ≤ (t[j]'hj).toNat ∧ (t[j]'hj).toNat ≤ 126) ∧ wr = w) (fun i _ => t.size - (intOf i).toNat)
    case atStart => exact ⟨0, rfl, by omega, fun j hj h => by omega, rfl⟩
    case round =>
      obtain ⟨k, rfl, hk, hA, rfl⟩ := hrel
      have HA : Hid (∀ (j : Nat) (hj : j < t.size), j < k → 32 ≤ (t[j]'hj).toNat ∧ (t[j]'hj).toNat ≤ 126) := hA
      clear hA
      by_cases hlt : k < t.size
      · have hlt' : (k : Int) < (t.size : Int) := by omega
        skip
        have hx0 : 0 ≤ ((t[k]'hlt).toNat : Int) := by omega
        have hx1 : ((t[k]'hlt).toNat : Int) ≤ 255 := by have := (t[k]'hlt).toNat_lt; omega
        by_cases hlo : ((t[k]'hlt).toNat : Int) < 32
        · have d1 : decide (((t[k]'hlt).toNat : Int) < 32) = true := by simpa using hlo
          go_wp2
          go_ret
          exact ⟨ret_bool (rngB_no k hlt (by omega)).symm, rfl⟩
        · have d1 : decide (((t[k]'hlt).toNat : Int) < 32) = false := by simpa using hlo
          by_cases hhi : 126 < ((t[k]'hlt).toNat : Int)
          · have d2 : decide (126 < ((t[k]'hlt).toNat : Int)) = true := by simpa using hhi
            go_wp2
            go_ret
            exact ⟨ret_bool (rngB_no k hlt (by omega)).symm, rfl⟩
          · have d2 : decide (126 < ((t[k]'hlt).toNat : Int)) = false := by simpa using hhi
            go_wp2
            go_roundw
            case rel =>
              refine ⟨k + 1, by go_num, by omega, fun j hj h => ?_, trivial⟩
              rcases Nat.lt_or_ge j k with g | g
              · exact HA.out j hj g
              · obtain rfl : j = k := by omega
                omega
            case measure => simp [intOf]; omega
      · obtain rfl : k = t.size := by omega
        skip
        go_wp2
        go_ret
        exact ⟨ret_bool (rngB_yes fun j hj => HA.out j hj hj).symm, rfl⟩
  · have hB : partB t = false := by simp [partB, hs]
    rw [hB]
    have hs' : (40 : Int) < (t.size : Int) := by omega
    go_enter Tryz.func98, Tryz.ntmps98
    go_wp2
    go_ret
    exact ⟨rfl, rfl⟩
end Go.Proofs.YtkaolpnbddjdpaaGreatDoor
namespace Go.Proofs.YtkaolpnbddjdpaaGreatDoor
open Go.ChangeShapes Go.WideShapes Go.ChangeAt Go.RowKit
def isE (s : ByteArray) : Bool := s.toList.isEmpty
/-- Are there several, and is the last one empty? -/
def endsE (ss : List ByteArray) : Bool := decide (1 < ss.length) && isE (ss[ss.length - 1]?.getD ⟨#[]⟩)
/-- Is the last one one empty text? -/
def blank1 (ss : List ByteArray) : Bool := decide (ss.length = 1) && isE (ss[0]?.getD ⟨#[]⟩)
def blankB (es : List (List ByteArray)) : Bool := decide (0 < es.length) && blank1 (es[es.length - 1]?.getD [])
def elB (ss : List ByteArray) : Bool := decide (1 ≤ ss.length) && (decide (ss.length ≤ 4) && (!endsE ss && ss.all partB))
def rightG (tag : ByteArray) (es : List (List ByteArray)) : Bool := tagB tag && (decide (es.length ≤ 10) && (!blankB es && es.all elB))
theorem all_yes {α : Type} {p : α → Bool} {l : List α} (h : ∀ (j : Nat) (x : α), l[j]? = some x → p x = true) : l.all p = true := by
  rw [List.all_eq_true]
  intro x hx
  obtain ⟨j, hj⟩ := List.mem_iff_getElem?.1 hx
  exact h j x hj
theorem all_no {α : Type} {p : α → Bool} {l : List α} {k : Nat} {x : α} (h : l[k]? = some x) (hx : p x = false) : l.all p = false := by
  rw [List.all_eq_false]
  exact ⟨x, List.mem_of_getElem? h, by rw [hx]; simp⟩
set_option maxHeartbeats 1000000 in
theorem l02Empty_any (v : Value) (ss : List ByteArray) (w : World) (h : RowS w v ss) (hl : ss.length ≤ 1048576) : Calls Tryz.prog 99 #[.agg #[v]] w fun e w' => e = .returned (.bool (blank1 ss)) ∧ Below w.heap.size w w' := by
  obtain ⟨a, cap, rfl⟩ := h.val
  by_cases h1 : ss.length = 1
  · have h1' : ((ss.length : Int) == 1) = true := by rw [beq_iff_eq]; omega
    have hk : 0 < ss.length := by omega
    obtain ⟨b, o, c1, s, e, hs, hc, hsz⟩ := (h.below ((Below.refl _ _).alloc (Nat.le_refl _) (.cells #[.slice a ss.length cap] 141))).at hk
    simp only [Value.slice.injEq, true_and] at e
    obtain ⟨rfl, rfl⟩ := e
    have hB : blank1 ss = isE s := by unfold blank1; rw [hs]; simp [h1]
    rw [hB]
    clear hB hs h
    have hk' : (0 : Int) < (ss.length : Int) := by omega
    rw [Nat.add_zero] at hc
    clear h1 hk
    go_enter Tryz.func99, Tryz.ntmps99
    go_wp2_with fail
    first | (go_quiet (fail); go_wp2) | go_wp2
    go_ret
    exact ⟨rfl, by first | exact below_drewN ((Below.refl _ _).alloc (Nat.le_refl _) _) _ | exact (Below.refl _ _).alloc (Nat.le_refl _) _⟩
  · have h1' : ((ss.length : Int) == 1) = false := by rw [beq_eq_false_iff_ne]; omega
    have hB : blank1 ss = false := by unfold blank1; simp [h1]
    rw [hB]
    clear h
    go_enter Tryz.func99, Tryz.ntmps99
    go_wp2_with fail
    first | (go_quiet (fail); go_wp2) | go_wp2
    go_ret
    exact ⟨rfl, by first | exact below_drewN ((Below.refl _ _).alloc (Nat.le_refl _) _) _ | exact (Below.refl _ _).alloc (Nat.le_refl _) _⟩
end Go.Proofs.YtkaolpnbddjdpaaGreatDoor
namespace Go.Proofs.YtkaolpnbddjdpaaGreatDoor
open Go.ChangeShapes Go.WideShapes Go.ChangeAt Go.RowKit
set_option maxHeartbeats 1000000 in
theorem l02Tag_any (t : ByteArray) (w : World) : Calls Tryz.prog 97 #[.string t] w fun e w' => e = .returned (.bool (tagB t)) ∧ w' = w := by
  by_cases hs : t.size = 3
  · have hB : tagB t = rngB 65 90 t := by simp [tagB, hs]
    rw [hB]
    have hs' : ((t.size : Int) != 3) = false := by simp; omega
    have hs2 : (t.size : Int) ≤ 40 := by omega
    go_enter Tryz.func97, Tryz.ntmps97
    go_wp2
    go_loopw [3] (fun i wr => ∃ k : Nat, i = .int .i64 (k : Int) ∧ k ≤ t.size ∧ (∀ (j : Nat) (hj : j < t.size), j < k → 65 ≤ (t[j]'hj).toNat ∧ (t[j]'hj).toNat ≤ 90) ∧ wr = w) (fun i _ => t.size - (intOf i).toNat)
    case atStart => exact ⟨0, rfl, by omega, fun j hj h => by omega, rfl⟩
    case round =>
      obtain ⟨k, rfl, hk, hA, rfl⟩ := hrel
      have HA : Hid (∀ (j : Nat) (hj : j < t.size), j < k → 65 ≤ (t[j]'hj).toNat ∧ (t[j]'hj).toNat ≤ 90) := hA
      clear hA
      by_cases hlt : k < t.size
      · have hlt' : (k : Int) < (t.size : Int) := by omega
        have hlt3 : (k : Int) < 3 := by omega
        have hx0 : 0 ≤ ((t[k]'hlt).toNat : Int) := by omega
        have hx1 : ((t[k]'hlt).toNat : Int) ≤ 255 := by have := (t[k]'hlt).toNat_lt; omega
        by_cases hlo : ((t[k]'hlt).toNat : Int) < 65
        · have d1 : decide (((t[k]'hlt).toNat : Int) < 65) = true := by simpa using hlo
          go_wp2
          go_ret
          exact ⟨ret_bool (rngB_no k hlt (by omega)).symm, rfl⟩
        · have d1 : decide (((t[k]'hlt).toNat : Int) < 65) = false := by simpa using hlo
          by_cases hhi : 90 < ((t[k]'hlt).toNat : Int)
          · have d2 : decide (90 < ((t[k]'hlt).toNat : Int)) = true := by simpa using hhi
            go_wp2
            go_ret
            exact ⟨ret_bool (rngB_no k hlt (by omega)).symm, rfl⟩
          · have d2 : decide (90 < ((t[k]'hlt).toNat : Int)) = false := by simpa using hhi
            go_wp2
            go_roundw
            case rel =>
              refine ⟨k + 1, by go_num, by omega, fun j hj h => ?_, trivial⟩
              rcases Nat.lt_or_ge j k with g | g
              · exact HA.out j hj g
              · obtain rfl : j = k := by omega
                omega
            case measure => simp [intOf]; omega
      · obtain rfl : k = t.size := by omega
        have hlt3 : ¬ (t.size : Int) < 3 := by omega
        go_wp2
        go_ret
        exact ⟨ret_bool (rngB_yes fun j hj => HA.out j hj hj).symm, rfl⟩
  · have hB : tagB t = false := by simp [tagB, hs]
    rw [hB]
    have hs' : ((t.size : Int) != 3) = true := by simp; omega
    go_enter Tryz.func97, Tryz.ntmps97
    go_wp2
    go_ret
    exact ⟨rfl, rfl⟩
end Go.Proofs.YtkaolpnbddjdpaaGreatDoor
namespace Go.Proofs.YtkaolpnbddjdpaaGreatDoor
open Go.ChangeShapes Go.WideShapes Go.ChangeAt Go.RowKit
set_option maxHeartbeats 1000000 in
theorem isTag_any (t : ByteArray) (w : World) : Calls Tryz.prog 138 #[.string t] w fun e w' => e = .returned (.bool (tagB t)) ∧ w' = w := by
  by_cases hs : t.size = 3
  · have hB : tagB t = rngB 65 90 t := by simp [tagB, hs]
    rw [hB]
    have hs' : ((t.size : Int) != 3) = false := by simp; omega
    have hs2 : (t.size : Int) ≤ 40 := by omega
    go_enter Tryz.func138, Tryz.ntmps138
    go_wp2
    go_loopw [7] (fun i wr => ∃ k : Nat, i = .int .i64 (k : Int) ∧ k ≤ t.size ∧ (∀ (j : Nat) (hj : j < t.size), j < k → 65 ≤ (t[j]'hj).toNat ∧ (t[j]'hj).toNat ≤ 90) ∧ wr = w) (fun i _ => t.size - (intOf i).toNat)
    case atStart => exact ⟨0, rfl, by omega, fun j hj h => by omega, rfl⟩
    case round =>
      obtain ⟨k, rfl, hk, hA, rfl⟩ := hrel
      have HA : Hid (∀ (j : Nat) (hj : j < t.size), j < k → 65 ≤ (t[j]'hj).toNat ∧ (t[j]'hj).toNat ≤ 90) := hA
      clear hA
      by_cases hlt : k < t.size
      · have hlt' : (k : Int) < (t.size : Int) := by omega
        have hlt3 : (k : Int) < 3 := by omega
        have hx0 : 0 ≤ ((t[k]'hlt).toNat : Int) := by omega
        have hx1 : ((t[k]'hlt).toNat : Int) ≤ 255 := by have := (t[k]'hlt).toNat_lt; omega
        by_cases hlo : ((t[k]'hlt).toNat : Int) < 65
        · have d1 : decide (((t[k]'hlt).toNat : Int) < 65) = true := by simpa using hlo
          go_wp2
          go_ret
          exact ⟨ret_bool (rngB_no k hlt (by omega)).symm, rfl⟩
        · have d1 : decide (((t[k]'hlt).toNat : Int) < 65) = false := by simpa using hlo
          by_cases hhi : 90 < ((t[k]'hlt).toNat : Int)
          · have d2 : decide (90 < ((t[k]'hlt).toNat : Int)) = true := by simpa using hhi
            go_wp2
            go_ret
            exact ⟨ret_bool (rngB_no k hlt (by omega)).symm, rfl⟩
          · have d2 : decide (90 < ((t[k]'hlt).toNat : Int)) = false := by simpa using hhi
            go_wp2
            go_roundw
            case rel =>
              refine ⟨k + 1, by go_num, by omega, fun j hj h => ?_, trivial⟩
              rcases Nat.lt_or_ge j k with g | g
              · exact HA.out j hj g
              · obtain rfl : j = k := by omega
                omega
            case measure => simp [intOf]; omega
      · obtain rfl : k = t.size := by omega
        have hlt3 : ¬ (t.size : Int) < 3 := by omega
        go_wp2
        go_ret
        exact ⟨ret_bool (rngB_yes fun j hj => HA.out j hj hj).symm, rfl⟩
  · have hB : tagB t = false := by simp [tagB, hs]
    rw [hB]
    have hs' : ((t.size : Int) != 3) = true := by simp; omega
    go_enter Tryz.func138, Tryz.ntmps138
    go_wp2
    go_ret
    exact ⟨rfl, rfl⟩
end Go.Proofs.YtkaolpnbddjdpaaGreatDoor
namespace Go.Proofs.YtkaolpnbddjdpaaGreatDoor
open Go.ChangeShapes Go.WideShapes Go.ChangeAt Go.RowKit
set_option maxHeartbeats 1000000 in
theorem endsEmpty_any (v : Value) (ss : List ByteArray) (w : World) (h : RowS w v ss) (hl : ss.length ≤ 1048576) : Calls Tryz.prog 167 #[v] w fun e w' => e = .returned (.bool (endsE ss)) ∧ w' = w := by
  obtain ⟨a, cap, rfl⟩ := h.val
  by_cases h1 : 1 < ss.length
  · have h1' : decide ((1 : Int) < (ss.length : Int)) = true := by simp; omega
    have hk : ss.length - 1 < ss.length := by omega
    obtain ⟨b, o, c1, s, e, hs, hc, hsz⟩ := h.at hk
    simp only [Value.slice.injEq, true_and] at e
    obtain ⟨rfl, rfl⟩ := e
    have hB : endsE ss = isE s := by unfold endsE; rw [hs]; simp [h1]
    rw [hB]
    clear hB hs h
    have hki : ((ss.length : Int) - 1) = ((ss.length - 1 : Nat) : Int) := by omega
    go_enter Tryz.func167, Tryz.ntmps167
    go_wp2
    go_ret
    exact ⟨rfl, rfl⟩
  · have h1' : decide ((1 : Int) < (ss.length : Int)) = false := by simp; omega
    have hB : endsE ss = false := by unfold endsE; simp [h1]
    rw [hB]
    clear h
    go_enter Tryz.func167, Tryz.ntmps167
    go_wp2
    go_ret
    exact ⟨rfl, rfl⟩
set_option maxHeartbeats 1000000 in
theorem endsBlank_any (v : Value) (es : List (List ByteArray)) (w : World) (h : RowE w v es) (hE : BdE 1048576 es) : Calls Tryz.prog 139 #[v] w fun e w' => e = .returned (.bool (blankB es)) ∧ w' = w := by
  have hl := hE.1
  obtain ⟨a, cap, rfl⟩ := h.val
  by_cases h0 : es.length = 0
  · have h0' : ((es.length : Int) == 0) = true := by rw [beq_iff_eq]; omega
    have hB : blankB es = false := by unfold blankB; simp [h0]
    rw [hB]
    clear h
    go_enter Tryz.func139, Tryz.ntmps139
    go_wp2
    go_ret
    exact ⟨rfl, rfl⟩
  · have h0' : ((es.length : Int) == 0) = false := by rw [beq_eq_false_iff_ne]; omega
    have hk : es.length - 1 < es.length := by omega
    obtain ⟨b, o, c1, ss, u, e, hs, hc, hS⟩ := h.at hk
    simp only [Value.slice.injEq, true_and] at e
    obtain ⟨rfl, rfl⟩ := e
    have hsl := (hE.2 _ ss hs).1
    have hB : blankB es = blank1 ss := by unfold blankB; rw [hs]; simp; omega
    rw [hB]
    have hki : ((es.length : Int) - 1) = ((es.length - 1 : Nat) : Int) := by omega
    obtain ⟨a2, cap2, rfl⟩ := hS.val
    clear hB hs h hE
    by_cases h1 : ss.length = 1
    · have h1' : ((ss.length : Int) == 1) = true := by rw [beq_iff_eq]; omega
      have hk : 0 < ss.length := by omega
      obtain ⟨b2, o2, c2, s, e, hs, hc2, hsz⟩ := hS.at hk
      simp only [Value.slice.injEq, true_and] at e
      obtain ⟨rfl, rfl⟩ := e
      have hB : blank1 ss = isE s := by unfold blank1; rw [hs]; simp [h1]
      rw [hB]
      clear hB hs hS
      have hk' : (0 : Int) < (ss.length : Int) := by omega
      rw [Nat.add_zero] at hc2
      go_enter Tryz.func139, Tryz.ntmps139
      go_wp2
      go_ret
      exact ⟨rfl, rfl⟩
    · have h1' : ((ss.length : Int) == 1) = false := by rw [beq_eq_false_iff_ne]; omega
      have hB : blank1 ss = false := by unfold blank1; simp [h1]
      rw [hB]
      clear hS
      go_enter Tryz.func139, Tryz.ntmps139
      go_wp2
      go_ret
      exact ⟨rfl, rfl⟩
set_option maxHeartbeats 1000000 in
theorem elementRight_any (v : Value) (ss : List ByteArray) (w : World) (h : RowS w v ss) (hl : ss.length ≤ 1048576) : Calls Tryz.prog 140 #[.agg #[v]] w fun e w' => e = .returned (.bool (elB ss)) ∧ Below w.heap.size w w' := by
  obtain ⟨a, cap, rfl⟩ := h.val
  have hW : RowS (w.alloc (.cells #[.slice a ss.length cap] 141)) (.slice a ss.length cap) ss := h.below ((Below.refl _ _).alloc (Nat.le_refl _) _)
  clear h
  by_cases h1 : 1 ≤ ss.length
  · by_cases h4 : ss.length ≤ 4
    · have d1 : decide ((ss.length : Int) < 1) = false := by simp; omega
      have d2 : decide ((4 : Int) < (ss.length : Int)) = false := by simp; omega
      have e0 : elB ss = (!endsE ss && ss.all partB) := by unfold elB; simp [h1, h4]
      rw [e0]
      clear e0
      go_enter Tryz.func140, Tryz.ntmps140
      go_wp2_with fail
      refine (endsEmpty_any _ ss _ hW hl).mono ?_
      rintro e w1 ⟨rfl, rfl⟩
      have HW : Hid (RowS (w.alloc (.cells #[.slice a ss.length cap] 141)) (.slice a ss.length cap) ss) := hW
      clear hW
      cases hE : endsE ss
      · go_wp2_with fail
        go_loopw [23] (fun i wr => ∃ k : Nat, i = .int .i64 (k : Int) ∧ k ≤ ss.length ∧ (∀ (j : Nat) (s : ByteArray), j < k → ss[j]? = some s → partB s = true) ∧ wr = w.alloc (.cells #[.slice a ss.length cap] 141)) (fun i _ => ss.length - (intOf i).toNat)
        case atStart => exact ⟨0, rfl, by omega, fun j s h => by omega, rfl⟩
        case round =>
          obtain ⟨k, rfl, hk, hA, rfl⟩ := hrel
          have HA : Hid (∀ (j : Nat) (s : ByteArray), j < k → ss[j]? = some s → partB s = true) := hA
          clear hA
          by_cases hlt : k < ss.length
          · have hlt' : (k : Int) < (ss.length : Int) := by omega
            obtain ⟨b, o, c1, s, e, hs, hc, hsz⟩ := HW.out.at hlt
            simp only [Value.slice.injEq, true_and] at e
            obtain ⟨rfl, rfl⟩ := e
            have HS : Hid (ss[k]? = some s) := hs
            clear hs
            go_wp2_with fail
            refine (isPart_any s _).mono ?_
            rintro e w1 ⟨rfl, rfl⟩
            cases hP : partB s
            · go_wp2
              go_ret
              exact ⟨ret_bool (by rw [hE, all_no HS.out hP]; rfl), (Below.refl _ _).alloc (Nat.le_refl _) _⟩
            · go_wp2
              go_roundw
              case rel =>
                refine ⟨k + 1, by go_num, by omega, fun j t hj ht => ?_, trivial⟩
                rcases Nat.lt_or_ge j k with g | g
                · exact HA.out j t g ht
                · obtain rfl : j = k := by omega
                  rw [HS.out] at ht
                  cases ht
                  exact hP
              case measure => simp [intOf]; omega
          · obtain rfl : k = ss.length := by omega
            go_wp2
            go_ret
            exact ⟨ret_bool (by rw [hE, all_yes fun j s hj => HA.out j s (List.getElem?_eq_some_iff.1 hj).1 hj]; rfl), (Below.refl _ _).alloc (Nat.le_refl _) _⟩
      · go_wp2
        go_ret
        exact ⟨ret_bool (by rw [hE]; rfl), (Below.refl _ _).alloc (Nat.le_refl _) _⟩
    · have d1 : decide ((ss.length : Int) < 1) = false := by simp; omega
      have d2 : decide ((4 : Int) < (ss.length : Int)) = true := by simp; omega
      have e0 : elB ss = false := by unfold elB; simp [h4]
      rw [e0]
      clear hW e0
      go_enter Tryz.func140, Tryz.ntmps140
      go_wp2
      go_ret
      exact ⟨rfl, (Below.refl _ _).alloc (Nat.le_refl _) _⟩
  · have d1 : decide ((ss.length : Int) < 1) = true := by simp; omega
    have e0 : elB ss = false := by unfold elB; simp [h1]
    rw [e0]
    clear hW e0
    go_enter Tryz.func140, Tryz.ntmps140
    go_wp2
    go_ret
    exact ⟨rfl, (Below.refl _ _).alloc (Nat.le_refl _) _⟩
set_option maxHeartbeats 2000000 in
theorem right_seg_impl (tag : ByteArray) (v : Value) (es : List (List ByteArray)) (w : World) (h : RowE w v es) (hE : BdE 1048576 es) : Calls Tryz.prog 104 #[.agg #[.string tag, v]] w fun e w' => e = .returned (.bool (rightG tag es)) ∧ Below w.heap.size w w' := by
  have hl := hE.1
  obtain ⟨a, cap, rfl⟩ := h.val
  have hW : RowE (w.alloc (.cells #[.string tag, .slice a es.length cap] 90)) (.slice a es.length cap) es := h.below ((Below.refl _ _).alloc (Nat.le_refl _) _)
  have HW : Hid (RowE (w.alloc (.cells #[.string tag, .slice a es.length cap] 90)) (.slice a es.length cap) es ∧ BdE 1048576 es) := ⟨hW, hE⟩
  clear h hW hE
  go_enter Tryz.func104, Tryz.ntmps104
  go_wp2_with fail
  refine (isTag_any tag _).mono ?_
  rintro e w1 ⟨rfl, rfl⟩
  cases hT : tagB tag
  · go_wp2
    go_ret
    exact ⟨ret_bool (by unfold rightG; rw [hT]; rfl), (Below.refl _ _).alloc (Nat.le_refl _) _⟩
  by_cases h10 : es.length ≤ 10
  · have d1 : decide ((10 : Int) < (es.length : Int)) = false := by simp; omega
    go_wp2_with fail
    refine (endsBlank_any _ es _ HW.out.1 HW.out.2).mono ?_
    rintro e w1 ⟨rfl, rfl⟩
    have e0 : rightG tag es = (!blankB es && es.all elB) := by unfold rightG; rw [hT]; simp [h10]
    have HE0 : Hid (rightG tag es = (!blankB es && es.all elB)) := e0
    clear e0
    cases hB : blankB es
    · go_wp2_with fail
      go_loopw [23] (fun i wr => ∃ k : Nat, i = .int .i64 (k : Int) ∧ k ≤ es.length ∧ (∀ (j : Nat) (s : List ByteArray), j < k → es[j]? = some s → elB s = true) ∧ Below (w.alloc (.cells #[.string tag, .slice a es.length cap] 90)).heap.size (w.alloc (.cells #[.string tag, .slice a es.length cap] 90)) wr) (fun i _ => es.length - (intOf i).toNat)
      case atStart => exact ⟨0, rfl, by omega, fun j s h => by omega, Below.refl _ _⟩
      case round =>
        obtain ⟨k, rfl, hk, hA, hb⟩ := hrel
        have hb' : Below w.heap.size w wr := ((Below.refl _ _).alloc (Nat.le_refl _) _).trans (hb.mono (by simp))
        have HA : Hid ((∀ (j : Nat) (s : List ByteArray), j < k → es[j]? = some s → elB s = true) ∧ Below (w.alloc (.cells #[.string tag, .slice a es.length cap] 90)).heap.size (w.alloc (.cells #[.string tag, .slice a es.length cap] 90)) wr ∧ Below w.heap.size w wr) := ⟨hA, hb, hb'⟩
        clear hA hb hb'
        by_cases hlt : k < es.length
        · have hlt' : (k : Int) < (es.length : Int) := by omega
          obtain ⟨b, o, c1, s, u, e, hs, hc, hS⟩ := (HW.out.1.below HA.out.2.1).at hlt
          simp only [Value.slice.injEq, true_and] at e
          obtain ⟨rfl, rfl⟩ := e
          have hsl := (HW.out.2.2 k s hs).1
          obtain ⟨a2, cap2, rfl⟩ := hS.val
          have HS : Hid (es[k]? = some s ∧ RowS (wr.alloc (.cells #[.slice a2 s.length cap2] 141)) (.slice a2 s.length cap2) s) := ⟨hs, hS.below ((Below.refl _ _).alloc (Nat.le_refl _) _)⟩
          clear hs hS
          go_wp2_with fail
          refine (elementRight_any _ s _ HS.out.2 hsl).mono ?_
          rintro e w2 ⟨rfl, hb2⟩
          have hw2 := hb2.size
          have HB : Hid (Below (w.alloc (.cells #[.string tag, .slice (some ⟨b, o, none⟩) es.length cap] 90)).heap.size (w.alloc (.cells #[.string tag, .slice (some ⟨b, o, none⟩) es.length cap] 90)) w2 ∧ Below w.heap.size w w2) := by
            have q1 := HA.out.2.1.size
            have q2 := HA.out.2.2.size
            exact ⟨(HA.out.2.1.alloc q1 _).trans (hb2.mono (by simp at q1 ⊢; omega)), (HA.out.2.2.alloc q2 _).trans (hb2.mono (by simp; omega))⟩
          clear hb2 hw2
          cases hP : elB s
          · go_wp2
            go_ret
            exact ⟨ret_bool (by rw [HE0.out, hB, all_no HS.out.1 hP]; rfl), HB.out.2⟩
          · go_wp2
            go_roundw
            case rel =>
              refine ⟨k + 1, by go_num, by omega, fun j t hj ht => ?_, HB.out.1⟩
              rcases Nat.lt_or_ge j k with g | g
              · exact HA.out.1 j t g ht
              · obtain rfl : j = k := by omega
                rw [HS.out.1] at ht
                cases ht
                exact hP
            case measure => simp [intOf]; omega
        · obtain rfl : k = es.length := by omega
          go_wp2
          go_ret
          exact ⟨ret_bool (by rw [HE0.out, hB, all_yes fun j s hj => HA.out.1 j s (List.getElem?_eq_some_iff.1 hj).1 hj]; rfl), HA.out.2.2⟩
    · go_wp2
      go_ret
      exact ⟨ret_bool (by rw [HE0.out, hB]; rfl), (Below.refl _ _).alloc (Nat.le_refl _) _⟩
  · have d1 : decide ((10 : Int) < (es.length : Int)) = true := by simp; omega
    go_wp2
    go_ret
    exact ⟨ret_bool (by unfold rightG; rw [hT]; simp [h10]), (Below.refl _ _).alloc (Nat.le_refl _) _⟩
end Go.Proofs.YtkaolpnbddjdpaaGreatDoor
