/- What the contracts of the model's CrossDrop and CrossPut share. -/
import Derived.Test.YtfdfanleigcfpaaPutP
import Derived.Test.YtfdfanleigcfpaaAppCs
import Derived.Test.YtfdfanleigcfpaaItS
namespace Go.Proofs.Ytfdfanleigcfpaa
open Go.ChangeShapes Go.WideShapes Go.ChangeAt Go.RowKit
theorem cell_blk3 {W : World} {B i : Nat} {c : Array Value} {t : TypeId} {x : Value} (h : W.heap[B]? = some (.cells c t)) (hx : c[i]? = some x) : W.cell? ⟨B, i, none⟩ = some x := by
  unfold World.cell?
  rw [h]
  exact hx
theorem own0 (w : World) {B : Nat} (hB : B ≤ w.heap.size) : (w.alloc (.cells #[] 25)).ownsRow B 25 3 (.slice (some ⟨w.heap.size, 0, none⟩) 0 0) 0 (clCss []) :=
  ⟨rfl, .inr ⟨w.heap.size, 0, #[], rfl, hB, World.alloc_heap_new _ _, Nat.le_refl _, Nat.zero_le _, rfl, rfl⟩⟩
theorem row0 (W : World) (a : Option Addr) (c : Nat) : RowCs W (.slice a 0 c) [] := ⟨⟨a, c, rfl, fun h => absurd rfl h⟩, by simp, fun i g hi => by simp at hi⟩
theorem ba_eq' {a b : ByteArray} (h : (a.toList == b.toList) = true) : a = b := by
  have e : a.toList = b.toList := by simpa using h
  rw [ByteArray.toList_eq, ByteArray.toList_eq] at e
  exact ByteArray.ext (Array.toList_inj.1 e)
theorem ba_ne' {a b : ByteArray} (h : (a.toList == b.toList) = false) : a ≠ b := fun e => by
  rw [e] at h
  simp at h
/-- What the model's CrossDrop keeps. -/
def keepD (r : Bool) (k : ByteArray × ByteArray) (l : List Crs) : List Crs := if r = true then offK k l else l
theorem keepD_out {r : Bool} {k : ByteArray × ByteArray} {rs : List Crs} {i : Nat} {c : Crs} (hs : rs[i]? = some c) (hr : r = true) (hk : thK c = k) : keepD r k (rs.take (i + 1)) = keepD r k (rs.take i) := by
  subst hr
  simp [keepD, offK, List.take_add_one, hs, hk]
theorem keepD_in {r : Bool} {k : ByteArray × ByteArray} {rs : List Crs} {i : Nat} {c : Crs} (hs : rs[i]? = some c) (h : r = true → thK c ≠ k) : keepD r k (rs.take (i + 1)) = keepD r k (rs.take i) ++ [c] := by
  cases r with
  | false => simp [keepD, List.take_add_one, hs]
  | true => simp [keepD, offK, List.take_add_one, hs, h rfl]
theorem keepD_sub (r : Bool) (k : ByteArray × ByteArray) (l : List Crs) : (keepD r k l).Sublist l := by
  cases r with
  | false => exact List.Sublist.refl _
  | true => exact offK_sub _ _
theorem grow_below {W w' : World} {B T : Nat} {v : Value} {n : Nat} {xs : List Value} {w : World} (hb : Below B w W) (hrow : W.ownsRow B T 3 v n xs) (hg : W.grownBy w' v.ownBlock) (hs : B ≤ W.heap.size) : Below B w w' :=
  hb.trans ⟨hg.os, hg.tape, hg.output, hg.size, fun q hq => hg.block q (by omega) (fun e => by have := (hrow.lt q e.symm).1; omega)⟩
end Go.Proofs.Ytfdfanleigcfpaa
