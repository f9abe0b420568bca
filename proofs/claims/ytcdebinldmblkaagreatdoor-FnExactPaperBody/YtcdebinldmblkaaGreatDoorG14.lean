/- Texts of ours put together: IxTa, ShCloneS, ElBy, ShClone. -/
import Derived.Test.YtcdebinldmblkaaGreatDoorG08
import Derived.Deep.RegionHeld3
import Derived.Deep.RegionLaw
import Derived.Deep.AppendLies
import Derived.Shelf.Slices.Clone
import Derived.Test.YtcdebinldmblkaaGreatDoorG00
import Derived.RangeFuncBox
import Derived.Test.YtcdebinldmblkaaGreatDoorG07
import Derived.Shelf.LaysM
import Derived.Shelf.Strconv.Clone
namespace Go.Proofs.YtcdebinldmblkaaGreatDoor
open Go.ChangeShapes Go.WideShapes Go.ChangeAt Go.RowKit
theorem infoStr : (Tryz.prog.info? 9).map (fun i => (i.zero, i.size, i.bytes)) = some (some (.string ⟨#[]⟩), 1, 16) := by kernel_rfl
theorem row_n' {n₀ t k N C : Nat} {W : World} {A : Option Addr} {xs : List Value} (h : W.ownsRow n₀ t 1 (.slice A N C) k xs) : N = k := by
  rcases h.2 with ⟨e, h0⟩ | ⟨g, cap, cur, e, _⟩
  · simp only [Value.slice.injEq] at e
    omega
  · simp only [Value.slice.injEq] at e
    exact e.2.1
theorem row1 (w : World) (t : ByteArray) (hz : t.size ≤ 9223372036854775807) : RowS (w.alloc (.cells #[.string t] 9)) (.slice (some ⟨w.heap.size, 0, none⟩) 1 1) [t] := by
  refine ⟨⟨_, _, rfl, fun _ => ⟨w.heap.size, 0, rfl, fun i s hi => ?_⟩⟩, by simp, fun i s hi => ?_⟩
  · rcases i with _ | i
    · simp at hi
      subst hi
      simp [go_sem]
    · simp at hi
  · rcases i with _ | i
    · simp at hi
      subst hi
      exact hz
    · simp at hi
/-- A segment at hand in block B, the answer's block R ahead of it. -/
structure GB (R B : Nat) (w W : World) (tag : ByteArray) (u : Value) (vals : List Value) (es : List (List ByteArray)) : Prop where
  r : W.heap[R]? = some (.cells #[.string ⟨#[]⟩, .slice none 0 0] 46)
  g : W.heap[B]? = some (.cells #[.string tag, u] 46)
  own : OwnV (B + 1) W u vals es
  bel : Below w.heap.size w W
  wr : w.heap.size ≤ R
  rb : R < B
theorem GB.lt {R B : Nat} {w W : World} {tag : ByteArray} {u : Value} {vals : List Value} {es : List (List ByteArray)} (h : GB R B w W tag u vals es) : B + 1 ≤ W.heap.size := (Array.getElem?_eq_some_iff.1 h.g).1
theorem GB.below {R B : Nat} {w W W' : World} {tag : ByteArray} {u : Value} {vals : List Value} {es : List (List ByteArray)} (h : GB R B w W tag u vals es) (hb : Below W.heap.size W W') : GB R B w W' tag u vals es :=
  ⟨(hb.block _ (Array.getElem?_eq_some_iff.1 h.r).1).trans h.r, (hb.block _ (Array.getElem?_eq_some_iff.1 h.g).1).trans h.g, h.own.below hb, h.bel.trans (hb.mono h.bel.size), h.wr, h.rb⟩
theorem GB.cells {R B : Nat} {w W : World} {tag : ByteArray} {u : Value} {vals : List Value} {es : List (List ByteArray)} (h : GB R B w W tag u vals es) : W.cell? ⟨B, 0, none⟩ = some (.string tag) ∧ W.cell? ⟨B, 1, none⟩ = some u := by
  have := h.g
  exact ⟨by simp [World.cell?, this], by simp [World.cell?, this]⟩
/-- One element more: appended in w4, then stored. -/
theorem GB.push {R B : Nat} {w W W2 W3 w4 : World} {tag : ByteArray} {u x u' : Value} {vals : List Value} {es : List (List ByteArray)} {e : List ByteArray} (h : GB R B w W tag u vals es) (hb2 : Below W.heap.size W W2) (hx : W2.ownsRow W.heap.size 9 1 x e.length (e.map Value.string)) (he : 0 < e.length) (hb3 : Below W2.heap.size W2 W3)
    (hown : w4.ownsRow (B + 1) 75 1 u' (es.length + 1) (vals ++ [x])) (hg : W3.grownBy w4 u.ownBlock) :
    (w4.cell? ⟨B, 1, none⟩ = some u ∧ w4.frozen? ⟨B, 1, none⟩ = false) ∧ GB R B w (w4.setCell ⟨B, 1, none⟩ u') tag u' (vals ++ [x]) (es ++ [e]) := by
  have h3 := (h.below hb2).below hb3
  have l3 := h3.lt
  have q1 := h.wr
  have q2 := h.rb
  have hO := h.own.push h.lt hb2 hx he hb3 hown hg
  have hold : ∀ k, k < B + 1 → w4.heap[k]? = W3.heap[k]? := fun k hk => hg.block k (by omega) (row_lt h3.own.row hk)
  have hgg : w4.heap[B]? = some (.cells #[.string tag, u] 46) := (hold _ (by omega)).trans h3.g
  have hbb : Below w.heap.size W3 w4 := ⟨hg.os, hg.tape, hg.output, hg.size, fun k hk => hold k (by omega)⟩
  have hset : (w4.setCell ⟨B, 1, none⟩ u').heap[B]? = some (.cells #[.string tag, u'] 46) := by
    have := heap_setCell_same w4 B 1 _ _ u' hgg
    simpa using this
  refine ⟨⟨by simp [World.cell?, hgg], by simp [World.frozen?, hgg]⟩, ?_, hset, hO.set (by omega) 1 u', (h3.bel.trans hbb).setCell (show w.heap.size ≤ B by omega) _, q1, q2⟩
  rw [Below.heap_setCell w4 ⟨B, 1, none⟩ u' R (show R ≠ B by omega)]
  exact (hold _ (by omega)).trans h3.r
end Go.Proofs.YtcdebinldmblkaaGreatDoor
namespace Go.Proofs.YtcdebinldmblkaaGreatDoor
open Go.Shelf Go.RowKit Go.Lib
def renCl : Go.Shelf.Ren := ⟨fun | 16 => 80 | n => n, fun | 24 => 22 | 9 => 9 | 4 => 4 | n => n, fun | n => n⟩
theorem laysCl : Go.Proofs.Lays2.n16 Tryz.prog renCl := {
  mixed := by kernel_rfl
  f16 := Tryz.func80.trans (congrArg some (by kernel_rfl))
  t4 := Tryz.underlying4
  a4 := Tryz.isAgg4
  z4 := Tryz.sizeOf4
  v4 := Tryz.zeroValue4
  t9 := Tryz.underlying9
  a9 := Tryz.isAgg9
  z9 := Tryz.sizeOf9
  v9 := Tryz.zeroValue9
  t24 := Tryz.underlying22
  a24 := Tryz.isAgg22
  z24 := Tryz.sizeOf22
  v24 := Tryz.zeroValue22
  i9 := by kernel_rfl }
theorem cloneS_any (b off n c : Nat) (zs : List ByteArray) (w : World) (hz : n ≤ zs.length) (hbig : n * 16 ≤ 140737488355328) (hc : ∀ j, j < zs.length → w.cell? ⟨b, off + j, none⟩ = some (.string (zs.getD j ByteArray.empty))) :
    Calls Tryz.prog 80 #[.slice (some ⟨b, off, none⟩) n c] w fun e w' => ∃ v', e = .returned v' ∧ w'.ownsRow w.heap.size 9 1 v' n ((zs.take n).map (Value.string)) ∧ v' ≠ .slice none 0 0 ∧ Below w.heap.size w w' := Any.slices_Clone_string laysCl b off n c zs w hz hbig hc
end Go.Proofs.YtcdebinldmblkaaGreatDoor
namespace Go.Proofs.YtcdebinldmblkaaGreatDoor
open Go.ChangeShapes Go.WideShapes Go.ChangeAt Go.RowKit
set_option maxHeartbeats 1000000 in
theorem elementBy_any (v : Value) (ss : List ByteArray) (w : World) (h : RowS w v ss) (hp : 0 < ss.length) (hl : ss.length ≤ 1048576) :
    Calls Tryz.prog 67 #[v] w fun e w' => ∃ v', e = .returned (.agg #[v']) ∧ w'.ownsRow w.heap.size 9 1 v' ss.length (ss.map Value.string) ∧ Below w.heap.size w w' := by
  have hb0 : Below w.heap.size w (w.alloc (.cells #[.slice none 0 0] 75)) := (Below.refl _ _).alloc (Nat.le_refl _) _
  obtain ⟨a, cap, rfl, hc⟩ := (h.below hb0).shape
  obtain ⟨b, o, rfl, hcell⟩ := hc (by intro e; rw [e] at hp; simp at hp)
  have HC : Hid (∀ j, j < ss.length → (w.alloc (.cells #[.slice none 0 0] 75)).cell? ⟨b, o + j, none⟩ = some (.string (ss.getD j ByteArray.empty))) := fun j hj => by
    rw [hcell j ss[j] (List.getElem?_eq_getElem hj)]
    simp [List.getD, List.getElem?_eq_getElem hj]
  clear hcell hc h
  go_enter Tryz.func67, Tryz.ntmps67
  go_wp2_with fail
  refine (cloneS_any b o ss.length cap ss _ (Nat.le_refl _) (by omega) HC.out).mono ?_
  rintro e w1 ⟨v', rfl, hrow, _, hb1⟩
  rw [List.take_length] at hrow
  have hs1 : w.heap.size + 1 ≤ w1.heap.size := by have := hb1.size; simpa using this
  have rx : w1.heap[w.heap.size]? = some (.cells #[.slice none 0 0] 75) := (hb1.block w.heap.size (by simp)).trans (World.alloc_heap_new w _)
  have c1 : w1.cell? ⟨w.heap.size, 0, none⟩ = some (.slice none 0 0) := by simp [World.cell?, rx]
  have z1 : w1.frozen? ⟨w.heap.size, 0, none⟩ = false := by simp [World.frozen?, rx]
  obtain ⟨A', L', C', hv'⟩ : ∃ A' L' C', v' = .slice A' L' C' := by
    rcases hrow.2 with ⟨rfl, _⟩ | ⟨g, cap, cur, rfl, _⟩
    · exact ⟨_, _, _, rfl⟩
    · exact ⟨_, _, _, rfl⟩
  subst hv'
  have HR : Hid (w1.ownsRow (w.alloc (.cells #[.slice none 0 0] 75)).heap.size 9 1 (.slice A' L' C') ss.length (ss.map Value.string) ∧ Below w.heap.size w w1) := ⟨hrow, hb0.trans (hb1.mono (by simp))⟩
  clear hrow hb0 hb1 rx HC
  go_wp2
  refine bodyPost_ret (v := .agg #[.slice A' L' C']) (by simp [results, Tryz.results67, go_sem, c1]) rfl ⟨_, rfl, ?_, HR.out.2.setCell (Nat.le_refl _) _⟩
  have h2 := row_mono HR.out.1 (show w.heap.size ≤ _ by simp)
  exact h2.kept (grownBy_setCell' w1 w.heap.size _) (.inr (row_lt HR.out.1 (show w.heap.size < (w.alloc (.cells #[.slice none 0 0] 75)).heap.size by simp)).symm)
end Go.Proofs.YtcdebinldmblkaaGreatDoor
namespace Go.Proofs.YtcdebinldmblkaaGreatDoor
open Go.Shelf Go.RowKit
def renClone : Go.Shelf.Ren := ⟨fun | 316 => 81 | n => n, fun | 9 => 9 | 3 => 3 | 4 => 4 | 37 => 73 | 0 => 0 | 127 => 125 | 5 => 5 | n => n, fun | n => n⟩
theorem laysClone : Go.Proofs.LaysM.n316 Tryz.prog renClone := {
  mixed := by kernel_rfl
  f316 := Tryz.func81.trans (congrArg some (by kernel_rfl))
  t0 := Tryz.underlying0
  a0 := Tryz.isAgg0
  z0 := Tryz.sizeOf0
  v0 := Tryz.zeroValue0
  t3 := Tryz.underlying3
  a3 := Tryz.isAgg3
  z3 := Tryz.sizeOf3
  v3 := Tryz.zeroValue3
  t4 := Tryz.underlying4
  a4 := Tryz.isAgg4
  z4 := Tryz.sizeOf4
  v4 := Tryz.zeroValue4
  t9 := Tryz.underlying9
  a9 := Tryz.isAgg9
  z9 := Tryz.sizeOf9
  v9 := Tryz.zeroValue9
  t37 := Tryz.underlying73
  a37 := Tryz.isAgg73
  z37 := Tryz.sizeOf73
  v37 := Tryz.zeroValue73
  t127 := Tryz.underlying125
  a127 := Tryz.isAgg125
  z127 := Tryz.sizeOf125
  v127 := Tryz.zeroValue125
  t5 := Tryz.underlying5
  a5 := Tryz.isAgg5
  z5 := Tryz.sizeOf5
  v5 := Tryz.zeroValue5
  i0 := by kernel_rfl
  i3 := by kernel_rfl
  i4 := by kernel_rfl
  i5 := by kernel_rfl
  i9 := by kernel_rfl
  i37 := by kernel_rfl
  i127 := by kernel_rfl }
theorem cloneLite (s : ByteArray) (w : World) (hlim : s.size ≤ 281474976710656) : Calls Tryz.prog 81 #[.string s] w fun e w' => e = .returned (.string s) ∧ Below w.heap.size w w' := Any.stringslite_Clone laysClone s w hlim
theorem clone_any (s : ByteArray) (w : World) (hlim : s.size ≤ 281474976710656) : Calls Tryz.prog 68 #[.string s] w fun e w' => e = .returned (.string s) ∧ Below w.heap.size w w' := by
  go_enter Tryz.func68, Tryz.ntmps68
  go_wp2_with fail
  refine (cloneLite s _ hlim).mono ?_
  rintro e w1 ⟨rfl, hb⟩
  go_wp2
  go_ret
  exact ⟨rfl, hb⟩
end Go.Proofs.YtcdebinldmblkaaGreatDoor
