/- WriteByte of a builder whose bytes lie above other rows of bytes. -/
import Derived.Test.YtibjmokhkjklkaaDoorDgF
import Derived.Test.YtibjmokhkjklkaaDoorShBuildH
namespace Go.Proofs.YtibjmokhkjklkaaDoor
open Go.ChangeShapes Go.WideShapes Go.ChangeAt Go.RowKit
open Go.Shelf
/-- A builder in block b, whose bytes lie from base on (which may be above b). -/
structure Bl (b base : Nat) (bs : List Value) (W : World) : Prop where
  ex : ∃ p v, (p = Value.pointer none ∨ p = .pointer (some ⟨b, 0, none⟩)) ∧ W.heap[b]? = some (.cells #[p, v] 97 (0, 0)) ∧ W.ownsRow base 5 1 v bs.length bs ∧ v.ownBlock ≠ some b
/-- All below base but block b as it lay. -/
structure KeepL (b base : Nat) (w w' : World) : Prop where
  os : w'.os = w.os
  tape : w'.tape = w.tape
  output : w'.output = w.output
  size : w.heap.size ≤ w'.heap.size
  block : ∀ k, k < base → k ≠ b → w'.heap[k]? = w.heap[k]?
  maps : ∀ (k : Nat) es c, w.heap[k]? = some (Obj.map es c) → w'.heap[k]? = some (Obj.map es c)
theorem KeepL.trans {b base : Nat} {x y z : World} (h : KeepL b base x y) (h' : KeepL b base y z) : KeepL b base x z := ⟨h'.os.trans h.os, h'.tape.trans h.tape, h'.output.trans h.output, Nat.le_trans h.size h'.size, fun k hk hn => (h'.block k hk hn).trans (h.block k hk hn), fun k es c e => h'.maps k es c (h.maps k es c e)⟩
theorem Bl.grown {b base : Nat} {bs : List Value} {W W' : World} {o : Option Nat} (h : Bl b base bs W) (hg : W.grownBy W' o) (ho : ∀ k, o = some k → k < base ∧ k ≠ b) : Bl b base bs W' := by
  obtain ⟨p, v, h1, h2, h3, h4⟩ := h.ex
  refine ⟨p, v, h1, (hg.block b (Array.getElem?_eq_some_iff.1 h2).1 (fun e => (ho b e.symm).2 rfl)).trans h2, h3.kept hg ?_, h4⟩
  cases hv : v.ownBlock with
  | none => exact .inl rfl
  | some j =>
    refine .inr fun e => ?_
    have := (h3.lt j hv).1
    have := (ho j e.symm).1
    omega
theorem Bl.isB {b base B : Nat} {bs : List Value} {W : World} (h : Bl b base bs W) (h1 : B ≤ b) (h2 : B ≤ base) : Lib.IsBuilder 97 5 B b bs W := by
  obtain ⟨p, v, hp, hb, ho, hn⟩ := h.ex
  have hd : W.ownsRow B 5 1 v bs.length bs := by
    refine ⟨ho.1, ho.2.imp id ?_⟩
    rintro ⟨g, cap, cur, e, hg, r⟩
    exact ⟨g, cap, cur, e, Nat.le_trans h2 hg, r⟩
  rcases hp with rfl | rfl
  · exact .inl ⟨h1, v, hb, hd, hn⟩
  · exact .inr ⟨h1, v, hb, hd, hn⟩
set_option maxRecDepth 100000 in
theorem copyCheck_b (b base : Nat) (bs : List Value) (w : World) (h : Bl b base bs w) : Calls Tryd.prog 63 #[.pointer (some ⟨b, 0, none⟩)] w fun e w' => e = .returned (.tuple #[]) ∧ (∃ v, w'.heap[b]? = some (.cells #[.pointer (some ⟨b, 0, none⟩), v] 97 (0, 0)) ∧ w'.ownsRow base 5 1 v bs.length bs ∧ v.ownBlock ≠ some b) ∧ w.grownBy w' (some b) := by
  obtain ⟨p, v, hp, hb, ho, hn⟩ := h.ex
  have L : Go.Proofs.Lays.n240 Tryd.prog renB := { laysWB with }
  have c0 : w.cell? ⟨b, 0, none⟩ = some p := by simp [World.cell?, hb]
  rcases hp with rfl | rfl
  · refine (Any.Builder_copyCheck_fresh L extraB.toX72 b w c0 (by simp only [World.shape?, hb]; rfl) (by simp [World.frozen?, hb])).mono ?_
    rintro e w' ⟨rfl, rfl⟩
    have hg := gby_set w b 0 (.pointer (some ⟨b, 0, none⟩))
    refine ⟨rfl, ⟨v, ?_, ho.kept hg (.inr hn), hn⟩, hg⟩
    simp [World.setCell, Array.getElem?_modify, hb]
  · refine (Any.Builder_copyCheck_used L extraB.toX72 b w c0).mono ?_
    rintro e w' ⟨rfl, rfl⟩
    exact ⟨rfl, ⟨v, hb, ho, hn⟩, ⟨rfl, rfl, rfl, Nat.le_refl _, fun _ _ _ => rfl⟩⟩
theorem infoU8 : (Tryd.prog.info? 5).map (fun i => (i.zero, i.size, i.bytes)) = some (some (.int .u8 0), 1, 1) := by kernel_rfl
set_option maxHeartbeats 2000000 in
set_option maxRecDepth 100000 in
theorem writeByte_b (b base : Nat) (bs : List Value) (c : Int) (w : World) (h : Bl b base bs w) (hlen : bs.length + 1 ≤ 1000000) (hbase : base ≤ w.heap.size) :
    Calls Tryd.prog 62 #[.pointer (some ⟨b, 0, none⟩), .int .u8 c] w fun e w' => e = .returned .nilIface ∧ Bl b base (bs ++ [.int .u8 c]) w' ∧ KeepL b base w w' := by
  obtain ⟨i0, hi, hz0, hz1, hz2⟩ := info_parts infoU8
  have HH : Hid (Bl b base bs w) := h
  clear h
  go_enter Tryd.func62, Tryd.ntmps62
  go_wp2_with fail
  refine (copyCheck_b b base bs _ HH.out).mono ?_
  rintro e w1 ⟨rfl, ⟨v, hbk, hown, hne⟩, hg1⟩
  have hs1 := hg1.size
  have c0 : w1.cell? ⟨b, 0, none⟩ = some (.pointer (some ⟨b, 0, none⟩)) := by rw [Lib.cell_of_heap hbk]; rfl
  have c1 : w1.cell? ⟨b, 1, none⟩ = some v := by rw [Lib.cell_of_heap hbk]; rfl
  go_wp2_with (at_builtin; refine wpList_append_own _ rfl _ _ 60 rfl base 5 i0 (.int .u8 0) 1 1 Tryd.underlying60 hi hz0 hz1 hz2 rfl (by decide) _ _ _ rfl (hown.alloc _) ⟨w1.heap.size, 0, none⟩ 1 1 [.int .u8 c] rfl rfl ?c1 ?c2 ?c3 ?c4 ?c5 ?_)
  case c1 =>
    intro j u hj
    match j, hj with
    | 0, hj => simp at hj; subst hj; simp [Addr.add]
  case c2 => intro u hu; simp at hu; subst hu; rfl
  case c3 => unfold maxLen; omega
  case c4 => omega
  case c5 => simp; omega
  intro v' w2 hown' hgrow _
  have hlt : b < w1.heap.size := (Array.getElem?_eq_some_iff.1 hbk).1
  have hb2 : w2.heap[b]? = some (.cells #[.pointer (some ⟨b, 0, none⟩), v] 97 (0, 0)) := by
    rw [hgrow.block b (by simp; omega) (fun e => hne e.symm), Lib.alloc_old w1 _ b hlt]
    exact hbk
  have d0 : w2.cell? ⟨b, 0, none⟩ = some (.pointer (some ⟨b, 0, none⟩)) := by rw [Lib.cell_of_heap hb2]; rfl
  have d1 : w2.cell? ⟨b, 1, none⟩ = some v := by rw [Lib.cell_of_heap hb2]; rfl
  have f1 : w2.frozen? ⟨b, 1, none⟩ = false := Lib.frozen_of_heap hb2 1
  obtain ⟨g, cap, rfl⟩ : ∃ g cap, v' = .slice (some ⟨g, 0, none⟩) (bs.length + 1) cap := by
    rcases hown'.2 with ⟨_, h0⟩ | ⟨g, cap, cur, hv, _⟩
    · omega
    · exact ⟨g, cap, hv⟩
  have hne' := Lib.ownBlock_ne hown' hb2 (by decide)
  have HF : Hid (Bl b base (bs ++ [.int .u8 c]) (w2.setCell ⟨b, 1, none⟩ (.slice (some ⟨g, 0, none⟩) (bs.length + 1) cap)) ∧ KeepL b base w (w2.setCell ⟨b, 1, none⟩ (.slice (some ⟨g, 0, none⟩) (bs.length + 1) cap))) := by
    have hgs := gby_set w2 b 1 (.slice (some ⟨g, 0, none⟩) (bs.length + 1) cap)
    refine ⟨⟨_, _, .inr rfl, ?_, by simpa using hown'.kept hgs (.inr hne'), hne'⟩, ?_⟩
    · simp [World.setCell, Array.getElem?_modify, hb2]
    · refine ⟨hgs.os.trans (hgrow.os.trans hg1.os), hgs.tape.trans (hgrow.tape.trans hg1.tape), hgs.output.trans (hgrow.output.trans hg1.output), Nat.le_trans hs1 (Nat.le_trans (by have := hgrow.size; simp at this; omega) hgs.size), fun k hk hn => ?_, fun k es cc ek => ?_⟩
      · have hk1 : k < w1.heap.size := by omega
        refine (setNeD _ hn).trans ((hgrow.block k (by simp; omega) (fun e => ?_)).trans ((Lib.alloc_old w1 _ k hk1).trans (hg1.block k (by omega) (by simp; exact hn))))
        have := (hown.lt k e.symm).1
        omega
      · have hkw := (Array.getElem?_eq_some_iff.1 ek).1
        have hn : k ≠ b := fun e => by
          obtain ⟨p0, v0, _, hb0, _⟩ := HH.out.ex
          rw [e, hb0] at ek
          cases ek
        have e1 : w1.heap[k]? = some (Obj.map es cc) := (hg1.block k hkw (by simp; exact hn)).trans ek
        refine (setNeD _ hn).trans ((hgrow.block k (by simp; omega) (fun e => ?_)).trans ((Lib.alloc_old w1 _ k (by omega)).trans e1))
        rcases hown.2 with ⟨rfl, _⟩ | ⟨g0, cap0, cur0, rfl, _, hg0, _⟩
        · simp [Value.ownBlock] at e
        · simp only [Value.ownBlock, Option.some.injEq] at e
          rw [← e, e1] at hg0
          cases hg0
  clear hown hown' hgrow hbk hb2 hne hne' hg1 HH
  go_wp2
  go_ret
  exact ⟨rfl, HF.out⟩
end Go.Proofs.YtibjmokhkjklkaaDoor
