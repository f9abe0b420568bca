/- Contracts of the model's CrossPut and CrossDrop. -/
import Derived.Test.YtbbjnohehjdohaaPutP
import Derived.Test.YtbbjnohehjdohaaAppCs
import Derived.Test.YtbbjnohehjdohaaItS
namespace Go.Proofs.Ytbbjnohehjdohaa
open Go.ChangeShapes Go.WideShapes Go.ChangeAt Go.RowKit
theorem cell_blk3 {W : World} {B i : Nat} {c : Array Value} {t : TypeId} {x : Value} (h : W.heap[B]? = some (.cells c t)) (hx : c[i]? = some x) : W.cell? ⟨B, i, none⟩ = some x := by
  unfold World.cell?
  rw [h]
  exact hx
theorem own0 (w : World) {B : Nat} (hB : B ≤ w.heap.size) : (w.alloc (.cells #[] 30)).ownsRow B 30 3 (.slice (some ⟨w.heap.size, 0, none⟩) 0 0) 0 (clCss []) :=
  ⟨rfl, .inr ⟨w.heap.size, 0, #[], rfl, hB, World.alloc_heap_new _ _, Nat.le_refl _, Nat.zero_le _, rfl, rfl⟩⟩
theorem row0 (W : World) (a : Option Addr) (c : Nat) : RowCs W (.slice a 0 c) [] := ⟨⟨a, c, rfl, fun h => absurd rfl h⟩, by simp, fun i g hi => by simp at hi⟩
theorem ba_eq' {a b : ByteArray} (h : (a.toList == b.toList) = true) : a = b := by
  have e : a.toList = b.toList := by simpa using h
  rw [ByteArray.toList_eq, ByteArray.toList_eq] at e
  exact ByteArray.ext (Array.toList_inj.1 e)
theorem ba_ne' {a b : ByteArray} (h : (a.toList == b.toList) = false) : a ≠ b := fun e => by
  rw [e] at h
  simp at h
/-- What the model's CrossDrop keeps. -/
def keepD (r : Bool) (k : ByteArray × ByteArray) (l : List Crs) : List Crs := if r = true then offK k l else l
theorem keepD_out {r : Bool} {k : ByteArray × ByteArray} {rs : List Crs} {i : Nat} {c : Crs} (hs : rs[i]? = some c) (hr : r = true) (hk : thK c = k) : keepD r k (rs.take (i + 1)) = keepD r k (rs.take i) := by
  subst hr
  simp [keepD, offK, List.take_add_one, hs, hk]
theorem keepD_in {r : Bool} {k : ByteArray × ByteArray} {rs : List Crs} {i : Nat} {c : Crs} (hs : rs[i]? = some c) (h : r = true → thK c ≠ k) : keepD r k (rs.take (i + 1)) = keepD r k (rs.take i) ++ [c] := by
  cases r with
  | false => simp [keepD, List.take_add_one, hs]
  | true => simp [keepD, offK, List.take_add_one, hs, h rfl]
theorem keepD_sub (r : Bool) (k : ByteArray × ByteArray) (l : List Crs) : (keepD r k l).Sublist l := by
  cases r with
  | false => exact List.Sublist.refl _
  | true => exact offK_sub _ _
theorem grow_below {W w' : World} {B T : Nat} {v : Value} {n : Nat} {xs : List Value} {w : World} (hb : Below B w W) (hrow : W.ownsRow B T 3 v n xs) (hg : W.grownBy w' v.ownBlock) (hs : B ≤ W.heap.size) : Below B w w' :=
  hb.trans ⟨hg.os, hg.tape, hg.output, hg.size, fun q hq => hg.block q (by omega) (fun e => by have := (hrow.lt q e.symm).1; omega)⟩
set_option maxHeartbeats 8000000 in
theorem crossDrop_spec (rs : List Crs) (ad : Addr) (Cp : Nat) (p t : ByteArray) (w : World) (h : RowCs w (.slice (some ad) rs.length Cp) rs) (hp : p.size ≤ 9223372036854775807) (ht : t.size ≤ 9223372036854775807) :
    Calls Try.prog 14 #[.slice (some ad) rs.length Cp, .string p, .string t] w fun e w' => ∃ u, e = .returned u ∧ RowCs w' u (dropT rs p t) ∧ Below w.heap.size w w' := by
  have hlen := h.len
  have H0 : Hid (RowCs w (.slice (some ad) rs.length Cp) rs) := h
  clear h
  have hb0 : Below w.heap.size w (w.alloc (.cells #[] 30)) := (Below.refl _ _).alloc (Nat.le_refl _) _
  have HB : Hid (Below w.heap.size w (w.alloc (.cells #[] 30))) := hb0
  clear hb0
  go_enter Try.func14, Try.ntmps14
  by_cases h0 : 400 < rs.length
  · have h0' : (400 : Int) < (rs.length : Int) := by omega
    have HT : Hid (dropT rs p t = []) := if_pos (.inl h0)
    go_wp2
    go_ret
    exact ⟨_, rfl, by rw [HT.out]; exact row0 _ _ _, HB.out⟩
  have h0' : ¬ (400 : Int) < (rs.length : Int) := by omega
  by_cases h1 : 20000 < p.size
  · have h1' : (20000 : Int) < (p.size : Int) := by omega
    have HT : Hid (dropT rs p t = []) := if_pos (.inr (.inl h1))
    go_wp2
    go_ret
    exact ⟨_, rfl, by rw [HT.out]; exact row0 _ _ _, HB.out⟩
  have h1' : ¬ (20000 : Int) < (p.size : Int) := by omega
  by_cases h2 : 20000 < t.size
  · have h2' : (20000 : Int) < (t.size : Int) := by omega
    have HT : Hid (dropT rs p t = []) := if_pos (.inr (.inr h2))
    go_wp2
    go_ret
    exact ⟨_, rfl, by rw [HT.out]; exact row0 _ _ _, HB.out⟩
  have h2' : ¬ (20000 : Int) < (t.size : Int) := by omega
  have hno : ¬ (400 < rs.length ∨ 20000 < p.size ∨ 20000 < t.size) := by omega
  go_wp2_with fail
  refine (crossRight_spec _ rs _ (H0.out.below HB.out)).mono ?_
  rintro e w1 ⟨rfl, hb1⟩
  obtain ⟨r, hr⟩ : ∃ r, r = rightB rs := ⟨_, rfl⟩
  rw [← hr]
  have HT : Hid (dropT rs p t = keepD r (p, t) rs) := by
    show dropT rs p t = keepD r (p, t) rs
    unfold dropT keepD
    rw [if_neg hno, hr]
  have hg1 : (w.alloc (.cells #[] 30)).grownBy w1 none := ⟨hb1.os, hb1.tape, hb1.output, hb1.size, fun k hk _ => hb1.block k hk⟩
  have H1 : Hid (Below w.heap.size w w1 ∧ w1.ownsRow w.heap.size 30 3 (.slice (some ⟨w.heap.size, 0, none⟩) 0 0) 0 (clCss [])) := ⟨HB.out.trans (hb1.mono (by simp)), (own0 w (Nat.le_refl _)).kept hg1 (.inr (by simp [Value.ownBlock]))⟩
  clear hb1 hg1 hr
  go_wp2_with fail
  go_loopw [7, 9] (fun lv i wr => ∃ k : Nat, i = .int .i64 (k : Int) ∧ k ≤ rs.length ∧ (∃ A C, lv = .slice A (keepD r (p, t) (rs.take k)).length C) ∧ wr.ownsRow w.heap.size 30 3 lv (keepD r (p, t) (rs.take k)).length (clCss (keepD r (p, t) (rs.take k))) ∧ Below w.heap.size w wr) (fun _ i _ => rs.length - (intOf i).toNat)
  case atStart =>
    have e : keepD r (p, t) (rs.take 0) = [] := by cases r <;> rfl
    exact ⟨0, rfl, by omega, by rw [e]; exact ⟨_, _, rfl⟩, by rw [e]; exact H1.out.2, H1.out.1⟩
  case round =>
    obtain ⟨k, rfl, hk, ⟨A1, C1, rfl⟩, hR, hb⟩ := hrel
    obtain ⟨acc, hacc⟩ : ∃ acc, keepD r (p, t) (rs.take k) = acc := ⟨_, rfl⟩
    rw [hacc] at hR ⊢
    have hal : acc.length ≤ rs.length := by rw [← hacc]; exact Nat.le_trans (keepD_sub _ _ _).length_le (by rw [List.length_take]; omega)
    have HE : Hid (keepD r (p, t) (rs.take k) = acc ∧ wr.ownsRow w.heap.size 30 3 (.slice A1 acc.length C1) acc.length (clCss acc) ∧ Below w.heap.size w wr) := ⟨hacc, hR, hb⟩
    clear hR hacc
    by_cases hlt : k < rs.length
    · have hlt' : (k : Int) < (rs.length : Int) := by omega
      obtain ⟨b, o, cap', c, e, hs, ⟨q0, q1, q2⟩, hz⟩ := (H0.out.below hb).at hlt
      simp only [Value.slice.injEq, true_and, Option.some.injEq] at e
      obtain ⟨rfl, rfl⟩ := e
      have HS : Hid (rs[k]? = some c) := hs
      have hsz := hb.size
      have hrow : (wr.alloc (.cells #[.string c.partner, .string c.theirs, .string c.own] 30)).ownsRow w.heap.size 30 3 (.slice A1 acc.length C1) acc.length (clCss acc) := HE.out.2.1.alloc _
      have hat : AtCs (wr.alloc (.cells #[.string c.partner, .string c.theirs, .string c.own] 30)) wr.heap.size 0 c := by
        have e := World.alloc_heap_new wr (.cells #[.string c.partner, .string c.theirs, .string c.own] 30)
        exact ⟨cell_blk3 e rfl, cell_blk3 e rfl, cell_blk3 e rfl⟩
      clear hs hz hb
      obtain ⟨inn, hin⟩ : ∃ inn : Bool, inn = (!r || (!(c.partner.toList == p.toList) || !(c.theirs.toList == t.toList))) := ⟨_, rfl⟩
      have HK : Hid (inn = true → r = true → thK c ≠ (p, t)) := fun e1 e2 e3 => by
        simp only [thK, Prod.mk.injEq] at e3
        rw [hin, e2, e3.1, e3.2] at e1
        simp at e1
      have HO : Hid (inn = false → r = true ∧ thK c = (p, t)) := fun e1 => by
        rw [hin] at e1
        simp only [Bool.or_eq_false_iff, Bool.not_eq_false'] at e1
        exact ⟨by simpa using e1.1, by simp [thK, ba_eq' e1.2.1, ba_eq' e1.2.2]⟩
      cases inn with
      | false =>
        obtain ⟨g1, g2⟩ := HO.out rfl
        subst g1
        have e1 : (c.partner.toList == p.toList) = true := by simp only [thK, Prod.mk.injEq] at g2; rw [g2.1]; simp
        have e2 : (c.theirs.toList == t.toList) = true := by simp only [thK, Prod.mk.injEq] at g2; rw [g2.2]; simp
        have HF : Hid (keepD true (p, t) (rs.take (k + 1)) = acc) := (keepD_out HS.out rfl g2).trans HE.out.1
        clear g2 hin
        go_wp2
        go_roundw
        case rel => exact ⟨k + 1, by go_num, by omega, by rw [HF.out]; exact ⟨_, _, rfl⟩, by rw [HF.out]; exact HE.out.2.1, HE.out.2.2⟩
        case measure => simp [intOf]; omega
      | true =>
        have HF : Hid (keepD r (p, t) (rs.take (k + 1)) = acc ++ [c]) := (keepD_in HS.out (HK.out rfl)).trans (by rw [HE.out.1])
        cases r with
        | false =>
          clear hin
          go_wp2_with (first | (at_builtin; refine wpList_appCs rfl _ _ rfl rfl rfl hrow hat (by omega) (by simp; omega) ?_; rintro v4 w4 hown4 hgrow4 ⟨A4, C4, rfl⟩))
          rw [show (acc ++ [c]).length = acc.length + 1 by simp] at hown4; exact ⟨⟨k + 1, by go_num, by omega, by rw [HF.out]; exact ⟨A4, C4, by simp⟩, by rw [HF.out, show (acc ++ [c]).length = acc.length + 1 by simp]; exact hown4, grow_below (HE.out.2.2.alloc hsz _) hrow hgrow4 (by simp; omega)⟩, by simp [intOf]; omega⟩
        | true =>
          cases e1 : (c.partner.toList == p.toList)
          · clear hin
            go_wp2_with (first | (at_builtin; refine wpList_appCs rfl _ _ rfl rfl rfl hrow hat (by omega) (by simp; omega) ?_; rintro v4 w4 hown4 hgrow4 ⟨A4, C4, rfl⟩))
            rw [show (acc ++ [c]).length = acc.length + 1 by simp] at hown4; exact ⟨⟨k + 1, by go_num, by omega, by rw [HF.out]; exact ⟨A4, C4, by simp⟩, by rw [HF.out, show (acc ++ [c]).length = acc.length + 1 by simp]; exact hown4, grow_below (HE.out.2.2.alloc hsz _) hrow hgrow4 (by simp; omega)⟩, by simp [intOf]; omega⟩
          · have e2 : (c.theirs.toList == t.toList) = false := by rw [e1] at hin; simpa using hin
            clear hin
            go_wp2_with (first | (at_builtin; refine wpList_appCs rfl _ _ rfl rfl rfl hrow hat (by omega) (by simp; omega) ?_; rintro v4 w4 hown4 hgrow4 ⟨A4, C4, rfl⟩))
            rw [show (acc ++ [c]).length = acc.length + 1 by simp] at hown4; exact ⟨⟨k + 1, by go_num, by omega, by rw [HF.out]; exact ⟨A4, C4, by simp⟩, by rw [HF.out, show (acc ++ [c]).length = acc.length + 1 by simp]; exact hown4, grow_below (HE.out.2.2.alloc hsz _) hrow hgrow4 (by simp; omega)⟩, by simp [intOf]; omega⟩
    · obtain rfl : k = rs.length := by omega
      clear hb
      go_wp2
      go_ret
      have he := HE.out.1
      rw [List.take_length] at he
      obtain ⟨b, hb1, hL⟩ := LCs.of_owns HE.out.2.1 (by omega) (fun i g hi => by
        have hm : g ∈ rs := (keepD_sub r (p, t) rs).subset (by rw [he]; exact List.mem_of_getElem? hi)
        obtain ⟨j, hj⟩ := List.getElem?_of_mem hm
        exact H0.out.sizes j g hj)
      exact ⟨_, rfl, by rw [HT.out, he]; exact hL.row, HE.out.2.2⟩
end Go.Proofs.Ytbbjnohehjdohaa
