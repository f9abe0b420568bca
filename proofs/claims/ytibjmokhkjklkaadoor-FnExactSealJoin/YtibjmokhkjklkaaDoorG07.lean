/- Texts of ours put together: BlI, HxI. -/
import Derived.Test.YtibjmokhkjklkaaDoorG05
import Derived.Test.YtibjmokhkjklkaaDoorG06
import Derived.Lib.ConvBytes
import Derived.Shelf.Strings.BuilderK
import Derived.Deep.RegionHeld3
namespace Go.Proofs.YtibjmokhkjklkaaDoor
open Go.ChangeShapes Go.WideShapes Go.ChangeAt Go.RowKit
open Go.Shelf
/-- A builder in block b, whose bytes lie from base on (which may be above b). -/
structure Bl (b base : Nat) (bs : List Value) (W : World) : Prop where
  ex : ∃ p v, (p = Value.pointer none ∨ p = .pointer (some ⟨b, 0, none⟩)) ∧ W.heap[b]? = some (.cells #[p, v] 97 (0, 0)) ∧ W.ownsRow base 5 1 v bs.length bs ∧ v.ownBlock ≠ some b
/-- All below base but block b as it lay. -/
structure KeepL (b base : Nat) (w w' : World) : Prop where
  os : w'.os = w.os
  tape : w'.tape = w.tape
  output : w'.output = w.output
  size : w.heap.size ≤ w'.heap.size
  block : ∀ k, k < base → k ≠ b → w'.heap[k]? = w.heap[k]?
  maps : ∀ (k : Nat) es c, w.heap[k]? = some (Obj.map es c) → w'.heap[k]? = some (Obj.map es c)
theorem KeepL.trans {b base : Nat} {x y z : World} (h : KeepL b base x y) (h' : KeepL b base y z) : KeepL b base x z := ⟨h'.os.trans h.os, h'.tape.trans h.tape, h'.output.trans h.output, Nat.le_trans h.size h'.size, fun k hk hn => (h'.block k hk hn).trans (h.block k hk hn), fun k es c e => h'.maps k es c (h.maps k es c e)⟩
theorem Bl.grown {b base : Nat} {bs : List Value} {W W' : World} {o : Option Nat} (h : Bl b base bs W) (hg : W.grownBy W' o) (ho : ∀ k, o = some k → k < base ∧ k ≠ b) : Bl b base bs W' := by
  obtain ⟨p, v, h1, h2, h3, h4⟩ := h.ex
  refine ⟨p, v, h1, (hg.block b (Array.getElem?_eq_some_iff.1 h2).1 (fun e => (ho b e.symm).2 rfl)).trans h2, h3.kept hg ?_, h4⟩
  cases hv : v.ownBlock with
  | none => exact .inl rfl
  | some j =>
    refine .inr fun e => ?_
    have := (h3.lt j hv).1
    have := (ho j e.symm).1
    omega
theorem Bl.isB {b base B : Nat} {bs : List Value} {W : World} (h : Bl b base bs W) (h1 : B ≤ b) (h2 : B ≤ base) : Lib.IsBuilder 97 5 B b bs W := by
  obtain ⟨p, v, hp, hb, ho, hn⟩ := h.ex
  have hd : W.ownsRow B 5 1 v bs.length bs := by
    refine ⟨ho.1, ho.2.imp id ?_⟩
    rintro ⟨g, cap, cur, e, hg, r⟩
    exact ⟨g, cap, cur, e, Nat.le_trans h2 hg, r⟩
  rcases hp with rfl | rfl
  · exact .inl ⟨h1, v, hb, hd, hn⟩
  · exact .inr ⟨h1, v, hb, hd, hn⟩
set_option maxRecDepth 100000 in
theorem copyCheck_b (b base : Nat) (bs : List Value) (w : World) (h : Bl b base bs w) : Calls Tryd.prog 63 #[.pointer (some ⟨b, 0, none⟩)] w fun e w' => e = .returned (.tuple #[]) ∧ (∃ v, w'.heap[b]? = some (.cells #[.pointer (some ⟨b, 0, none⟩), v] 97 (0, 0)) ∧ w'.ownsRow base 5 1 v bs.length bs ∧ v.ownBlock ≠ some b) ∧ w.grownBy w' (some b) := by
  obtain ⟨p, v, hp, hb, ho, hn⟩ := h.ex
  have L : Go.Proofs.Lays.n240 Tryd.prog renB := { laysWB with }
  have c0 : w.cell? ⟨b, 0, none⟩ = some p := by simp [World.cell?, hb]
  rcases hp with rfl | rfl
  · refine (Any.Builder_copyCheck_fresh L extraB.toX72 b w c0 (by simp only [World.shape?, hb]; rfl) (by simp [World.frozen?, hb])).mono ?_
    rintro e w' ⟨rfl, rfl⟩
    have hg := gby_set w b 0 (.pointer (some ⟨b, 0, none⟩))
    refine ⟨rfl, ⟨v, ?_, ho.kept hg (.inr hn), hn⟩, hg⟩
    simp [World.setCell, Array.getElem?_modify, hb]
  · refine (Any.Builder_copyCheck_used L extraB.toX72 b w c0).mono ?_
    rintro e w' ⟨rfl, rfl⟩
    exact ⟨rfl, ⟨v, hb, ho, hn⟩, ⟨rfl, rfl, rfl, Nat.le_refl _, fun _ _ _ => rfl⟩⟩
theorem infoU8 : (Tryd.prog.info? 5).map (fun i => (i.zero, i.size, i.bytes)) = some (some (.int .u8 0), 1, 1) := by kernel_rfl
set_option maxHeartbeats 2000000 in
set_option maxRecDepth 100000 in
theorem writeByte_b (b base : Nat) (bs : List Value) (c : Int) (w : World) (h : Bl b base bs w) (hlen : bs.length + 1 ≤ 1000000) (hbase : base ≤ w.heap.size) :
    Calls Tryd.prog 62 #[.pointer (some ⟨b, 0, none⟩), .int .u8 c] w fun e w' => e = .returned .nilIface ∧ Bl b base (bs ++ [.int .u8 c]) w' ∧ KeepL b base w w' := by
  obtain ⟨i0, hi, hz0, hz1, hz2⟩ := info_parts infoU8
  have HH : Hid (Bl b base bs w) := h
  clear h
  go_enter Tryd.func62, Tryd.ntmps62
  go_wp2_with fail
  refine (copyCheck_b b base bs _ HH.out).mono ?_
  rintro e w1 ⟨rfl, ⟨v, hbk, hown, hne⟩, hg1⟩
  have hs1 := hg1.size
  have c0 : w1.cell? ⟨b, 0, none⟩ = some (.pointer (some ⟨b, 0, none⟩)) := by rw [Lib.cell_of_heap hbk]; rfl
  have c1 : w1.cell? ⟨b, 1, none⟩ = some v := by rw [Lib.cell_of_heap hbk]; rfl
  go_wp2_with (at_builtin; refine wpList_append_own _ rfl _ _ 60 rfl base 5 i0 (.int .u8 0) 1 1 Tryd.underlying60 hi hz0 hz1 hz2 rfl (by decide) _ _ _ rfl (hown.alloc _) ⟨w1.heap.size, 0, none⟩ 1 1 [.int .u8 c] rfl rfl ?c1 ?c2 ?c3 ?c4 ?c5 ?_)
  case c1 =>
    intro j u hj
    match j, hj with
    | 0, hj => simp at hj; subst hj; simp [Addr.add]
  case c2 => intro u hu; simp at hu; subst hu; rfl
  case c3 => unfold maxLen; omega
  case c4 => omega
  case c5 => simp; omega
  intro v' w2 hown' hgrow _
  have hlt : b < w1.heap.size := (Array.getElem?_eq_some_iff.1 hbk).1
  have hb2 : w2.heap[b]? = some (.cells #[.pointer (some ⟨b, 0, none⟩), v] 97 (0, 0)) := by
    rw [hgrow.block b (by simp; omega) (fun e => hne e.symm), Lib.alloc_old w1 _ b hlt]
    exact hbk
  have d0 : w2.cell? ⟨b, 0, none⟩ = some (.pointer (some ⟨b, 0, none⟩)) := by rw [Lib.cell_of_heap hb2]; rfl
  have d1 : w2.cell? ⟨b, 1, none⟩ = some v := by rw [Lib.cell_of_heap hb2]; rfl
  have f1 : w2.frozen? ⟨b, 1, none⟩ = false := Lib.frozen_of_heap hb2 1
  obtain ⟨g, cap, rfl⟩ : ∃ g cap, v' = .slice (some ⟨g, 0, none⟩) (bs.length + 1) cap := by
    rcases hown'.2 with ⟨_, h0⟩ | ⟨g, cap, cur, hv, _⟩
    · omega
    · exact ⟨g, cap, hv⟩
  have hne' := Lib.ownBlock_ne hown' hb2 (by decide)
  have HF : Hid (Bl b base (bs ++ [.int .u8 c]) (w2.setCell ⟨b, 1, none⟩ (.slice (some ⟨g, 0, none⟩) (bs.length + 1) cap)) ∧ KeepL b base w (w2.setCell ⟨b, 1, none⟩ (.slice (some ⟨g, 0, none⟩) (bs.length + 1) cap))) := by
    have hgs := gby_set w2 b 1 (.slice (some ⟨g, 0, none⟩) (bs.length + 1) cap)
    refine ⟨⟨_, _, .inr rfl, ?_, by simpa using hown'.kept hgs (.inr hne'), hne'⟩, ?_⟩
    · simp [World.setCell, Array.getElem?_modify, hb2]
    · refine ⟨hgs.os.trans (hgrow.os.trans hg1.os), hgs.tape.trans (hgrow.tape.trans hg1.tape), hgs.output.trans (hgrow.output.trans hg1.output), Nat.le_trans hs1 (Nat.le_trans (by have := hgrow.size; simp at this; omega) hgs.size), fun k hk hn => ?_, fun k es cc ek => ?_⟩
      · have hk1 : k < w1.heap.size := by omega
        refine (setNeD _ hn).trans ((hgrow.block k (by simp; omega) (fun e => ?_)).trans ((Lib.alloc_old w1 _ k hk1).trans (hg1.block k (by omega) (by simp; exact hn))))
        have := (hown.lt k e.symm).1
        omega
      · have hkw := (Array.getElem?_eq_some_iff.1 ek).1
        have hn : k ≠ b := fun e => by
          obtain ⟨p0, v0, _, hb0, _⟩ := HH.out.ex
          rw [e, hb0] at ek
          cases ek
        have e1 : w1.heap[k]? = some (Obj.map es cc) := (hg1.block k hkw (by simp; exact hn)).trans ek
        refine (setNeD _ hn).trans ((hgrow.block k (by simp; omega) (fun e => ?_)).trans ((Lib.alloc_old w1 _ k (by omega)).trans e1))
        rcases hown.2 with ⟨rfl, _⟩ | ⟨g0, cap0, cur0, rfl, _, hg0, _⟩
        · simp [Value.ownBlock] at e
        · simp only [Value.ownBlock, Option.some.injEq] at e
          rw [← e, e1] at hg0
          cases hg0
  clear hown hown' hgrow hbk hb2 hne hne' hg1 HH
  go_wp2
  go_ret
  exact ⟨rfl, HF.out⟩
end Go.Proofs.YtibjmokhkjklkaaDoor
namespace Go.Proofs.YtibjmokhkjklkaaDoor
open Go.ChangeShapes Go.WideShapes Go.ChangeAt Go.RowKit
theorem Dgt.of {mp : Bool} {T nn : Nat} {r : Nat → Value} {B : Nat} {W : World} (h : DgM mp T nn r B W) : Dgt mp T nn r B W := by
  obtain ⟨m, h1, h2, h3⟩ := h
  exact .made m h1 h2 h3
/-- The digits' record where only a builder and rows of bytes have changed. -/
theorem Dgt.keepL {mp : Bool} {T nn : Nat} {r : Nat → Value} {B b base : Nat} {W W' : World} (h : Dgt mp T nn r B W) (hk : KeepL b base W W') (h1 : B < base) (h2 : B ≠ b) : Dgt mp T nn r B W' := by
  rcases h with h | ⟨m, hne, h, hm⟩
  · exact .new (h.of_block (hk.block B h1 h2))
  · refine .made m hne (h.of_block (hk.block B h1 h2)) fun hmp => ?_
    obtain ⟨es, c, e, r⟩ := hm hmp
    exact ⟨es, c, hk.maps m es c e, r⟩
theorem Dgt.below {mp : Bool} {T nn : Nat} {r : Nat → Value} {B : Nat} {W W' : World} (h : Dgt mp T nn r B W) (hb : Below W.heap.size W W') : Dgt mp T nn r B W' := by
  rcases h with h | ⟨m, hne, h, hm⟩
  · exact .new (h.of_block (hb.block B h.lt))
  · exact .made m hne (h.of_block (hb.block B h.lt)) fun hmp => omap_of (hm hmp) (hb.block m (hm hmp).lt)
/-- What the loop of hex keeps. -/
structure HxK (mp : Bool) (T nn : Nat) (r : Nat → Value) (B : Nat) (t : ByteArray) (w : World) (zs : List Int) (W : World) : Prop where
  bl : Bl w.heap.size (w.heap.size + 2) (zs.map (Value.int .u8)) W
  dg : Dgt mp T nn r B W
  row : ∀ (j : Nat) (x : UInt8), t.data.toList[j]? = some x → W.cell? ⟨w.heap.size + 1, j, none⟩ = some (.int .u8 x.toNat)
  gr : w.grownBy W (some B)
  siz : w.heap.size + 2 ≤ W.heap.size
theorem HxK.put {mp : Bool} {T nn : Nat} {r : Nat → Value} {B : Nat} {t : ByteArray} {w : World} {zs : List Int} {W W' : World} (h : HxK mp T nn r B t w zs W) (hB : B < w.heap.size) {z : Int} (hb : Bl w.heap.size (w.heap.size + 2) (zs.map (Value.int .u8) ++ [.int .u8 z]) W') (hk : KeepL w.heap.size (w.heap.size + 2) W W') : HxK mp T nn r B t w (zs ++ [z]) W' := by
  have hs := h.siz
  refine ⟨by simpa using hb, h.dg.keepL hk (by omega) (by omega), fun j x hj => ?_, ?_, Nat.le_trans hs hk.size⟩
  · rw [← h.row j x hj]
    unfold World.cell?
    rw [hk.block (w.heap.size + 1) (by omega) (by omega)]
  · exact ⟨hk.os.trans h.gr.os, hk.tape.trans h.gr.tape, hk.output.trans h.gr.output, Nat.le_trans h.gr.size hk.size, fun k hk1 hn => (hk.block k (by omega) (by omega)).trans (h.gr.block k hk1 hn)⟩
theorem HxK.letter {mp : Bool} {T nn : Nat} {r : Nat → Value} {B : Nat} {t : ByteArray} {w : World} {zs : List Int} {W W' : World} (h : HxK mp T nn r B t w zs W) (hB : B < w.heap.size) (hd : DgM mp T nn r B W') (hg : W.grownBy W' (some B)) : HxK mp T nn r B t w zs W' := by
  have hs := h.siz
  refine ⟨h.bl.grown hg (fun k e => by cases e; omega), Dgt.of hd, fun j x hj => ?_, gby_trans h.gr hg, Nat.le_trans hs hg.size⟩
  rw [← h.row j x hj]
  unfold World.cell?
  rw [hg.block (w.heap.size + 1) (by omega) (by simp; omega)]
set_option maxRecDepth 100000 in
set_option maxHeartbeats 4000000 in
theorem hex_any {mp : Bool} {T nn : Nat} {r : Nat → Value} (hnn : 20 ≤ nn) (B : Nat) (t : ByteArray) (ht : t.size ≤ 4000) (w : World) (h : Dgt mp T nn r B w) (hB : B < w.heap.size) :
    Calls Tryd.prog 65 #[.pointer (some ⟨B, 0, none⟩), .string t] w fun e w' => e = .returned (.string ⟨(hexB t.data.toList).toArray⟩) ∧ Dgt mp T nn r B w' ∧ w.grownBy w' (some B) := by
  obtain ⟨W0, hW0⟩ : ∃ W0, w.alloc (.cells #[.pointer none, .slice none 0 0] 97) = W0 := ⟨_, rfl⟩
  have hb0 : Below w.heap.size w W0 := by rw [← hW0]; exact (Below.refl _ _).alloc (Nat.le_refl _) _
  have hx0 : W0.heap[w.heap.size]? = some (.cells #[.pointer none, .slice none 0 0] 97) := by rw [← hW0]; exact World.alloc_heap_new _ _
  have hs0 : W0.heap.size = w.heap.size + 1 := by rw [← hW0]; simp
  have hcv := Lib.run_convert_string_bytes (P := Tryd.prog) W0 9 60 5 t Tryd.underlying9 Tryd.underlying60 Tryd.underlying5
  obtain ⟨W1, hW1⟩ : ∃ W1, Lib.bytesWorld W0 5 t = W1 := ⟨_, rfl⟩
  have HK : Hid (HxK mp T nn r B t w [] W1) := by
    have hb1 : Below W0.heap.size W0 W1 := by
      rw [← hW1]
      exact ⟨rfl, rfl, rfl, by rw [Lib.bytesWorld_size]; omega, fun k hk => Lib.bytesWorld_at_old _ _ _ _ hk⟩
    have hB1 : Below w.heap.size w W1 := hb0.trans (hb1.mono (by omega))
    refine ⟨⟨_, _, .inl rfl, (hb1.block _ (by omega)).trans hx0, World.ownsRow_nil _ _ _ _, by simp [Value.ownBlock]⟩, h.below hB1, fun j x hj => ?_, ⟨hB1.os, hB1.tape, hB1.output, hB1.size, fun k hk _ => hB1.block k hk⟩, by rw [← hW1, Lib.bytesWorld_size]; omega⟩
    have hjl : j < t.size := (List.getElem?_eq_some_iff.1 hj).1
    have := Lib.bytesWorld_cell W0 5 t j hjl
    rw [hs0, hW1] at this
    rw [this, List.getD_eq_getElem?_getD, hj]
    rfl
  rw [hW1] at hcv
  clear hb0 hx0 h hW1
  go_enter Tryd.func65, Tryd.ntmps65
  go_upto_region 2 with fail
  try rw [hW0]
  rw [hs0] at hcv
  clear hW0
  go_wp2
  go_loopw [11] (fun i wr => ∃ k : Nat, i = .int .i64 (k : Int) ∧ k ≤ t.size ∧ HxK mp T nn r B t w (hexZ (t.data.toList.take k)) wr) (fun i _ => t.size - (intOf i).toNat)
  case atStart => exact ⟨0, rfl, by omega, HK.out⟩
  case round =>
    obtain ⟨k, rfl, hk, hI⟩ := hrel
    have HI : Hid (HxK mp T nn r B t w (hexZ (t.data.toList.take k)) wr) := hI
    clear hI
    by_cases hlt : k < t.size
    · have hlt' : (k : Int) < (t.size : Int) := by omega
      have hx : t.data.toList[k]? = some t.data.toList[k] := List.getElem?_eq_getElem (by exact hlt)
      obtain ⟨x, hxx⟩ : ∃ x, x = t.data.toList[k]'(by exact hlt) := ⟨_, rfl⟩
      rw [← hxx] at hx
      have hc := HI.out.row k x hx
      have hxl := x.toNat_lt
      have HX : Hid (t.data.toList[k]? = some x) := hx
      obtain ⟨n, hn⟩ : ∃ n, n = x.toNat := ⟨_, rfl⟩
      rw [← hn] at hc hxl
      have HN : Hid (n = x.toNat) := hn
      have hzl : (hexZ (t.data.toList.take k)).length ≤ 8000 := by
        rw [hexZ_len, List.length_take]
        omega
      clear hcv hxx hx hn
      go_upto_region 5 with fail
      clear hc
      go_wp2_with fail
      rw [show (n : Int) / 16 = ((n / 16 : Nat) : Int) from by omega]
      refine (letter_any (mp := mp) hnn B (n / 16) (by omega) _ HI.out.dg).mono ?_
      rintro e w1 ⟨rfl, hd1, hg1⟩
      have H1 : Hid (HxK mp T nn r B t w (hexZ (t.data.toList.take k)) w1) := HI.out.letter hB hd1 hg1
      clear hd1 hg1
      go_wp2_with fail
      refine (writeByte_b w.heap.size (w.heap.size + 2) _ (hexD (n / 16)) _ H1.out.bl (by rw [List.length_map]; omega) H1.out.siz).mono ?_
      rintro e w2 ⟨rfl, hb2, hk2⟩
      have H2 : Hid (HxK mp T nn r B t w (hexZ (t.data.toList.take k) ++ [hexD (n / 16)]) w2) := H1.out.put hB hb2 hk2
      clear hb2 hk2 H1
      go_wp2_with fail
      rw [show (n : Int) % 16 = ((n % 16 : Nat) : Int) from by omega]
      refine (letter_any (mp := mp) hnn B (n % 16) (by omega) _ H2.out.dg).mono ?_
      rintro e w3 ⟨rfl, hd3, hg3⟩
      have H3 : Hid (HxK mp T nn r B t w (hexZ (t.data.toList.take k) ++ [hexD (n / 16)]) w3) := H2.out.letter hB hd3 hg3
      clear hd3 hg3 H2
      go_wp2_with fail
      refine (writeByte_b w.heap.size (w.heap.size + 2) _ (hexD (n % 16)) _ H3.out.bl (by rw [List.length_map, List.length_append]; simp; omega) H3.out.siz).mono ?_
      rintro e w4 ⟨rfl, hb4, hk4⟩
      have H4 : Hid (HxK mp T nn r B t w (hexZ (t.data.toList.take (k + 1))) w4) := by
        have h4 := H3.out.put hB hb4 hk4
        have e : hexZ (t.data.toList.take (k + 1)) = hexZ (t.data.toList.take k) ++ [hexD (n / 16)] ++ [hexD (n % 16)] := by
          rw [List.take_add_one, HX.out, hexZ_app, HN.out]
          simp [hexZ]
        rw [e]
        exact h4
      clear hb4 hk4 H3
      go_wp2
      go_roundw
      case rel => exact ⟨k + 1, by go_num, by omega, H4.out⟩
      case measure => simp [intOf]; omega
    · obtain rfl : k = t.size := by omega
      clear hcv
      have hB' := HI.out.bl.isB (B := w.heap.size) (Nat.le_refl _) (by omega)
      rw [show t.data.toList.take t.size = t.data.toList from List.take_of_length_le (Nat.le_refl _), ← hexB_cells] at hB'
      have hz : w.heap.size ≤ wr.heap.size := by have := HI.out.siz; omega
      have QS := Any.Builder_String_any_k laysSt extraB w.heap.size w.heap.size (hexB t.data.toList) wr (Lib.IsBuilderF.of hB') hz
      clear hB'
      go_wp2_with fail
      refine QS.mono ?_
      rintro e w5 ⟨rfl, _, hb5, hk5⟩
      have HE : Hid (Dgt mp T nn r B w5 ∧ w.grownBy w5 (some B)) := by
        have g := HI.out.gr
        refine ⟨?_, ⟨hb5.os.trans g.os, hb5.tape.trans g.tape, hb5.output.trans g.output, Nat.le_trans g.size hb5.size, fun k hk hn => (hb5.block k hk).trans (g.block k hk hn)⟩⟩
        rcases HI.out.dg with h | ⟨m, hne, h, hm⟩
        · exact .new (h.of_block (hb5.block B hB))
        · refine .made m hne (h.of_block (hb5.block B hB)) fun hmp => ?_
          obtain ⟨es, c, e, r⟩ := hm hmp
          have hbx := (Array.getElem?_eq_some_iff.1 e).1
          refine ⟨es, c, hk5 m _ e (fun ee => ?_) (fun c fz ee => by cases ee), r⟩
          obtain ⟨p0, v0, _, hb0, _⟩ := HI.out.bl.ex
          simp only [Option.some.injEq] at ee
          rw [ee, hb0] at e
          cases e
      clear hb5 hk5 QS
      go_wp2
      go_ret
      exact ⟨rfl, HE.out⟩
end Go.Proofs.YtibjmokhkjklkaaDoor
