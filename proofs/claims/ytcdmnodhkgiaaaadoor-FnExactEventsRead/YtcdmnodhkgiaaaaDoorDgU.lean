/- Contract of the digits' unhex. -/
import Derived.Test.YtcdmnodhkgiaaaaDoorDgV
import Derived.Test.YtcdmnodhkgiaaaaDoorBlI
import Derived.Test.YtcdmnodhkgiaaaaDoorHxI
import Derived.Lib.OthersKept
import Derived.Lib.TrimU
import Derived.Shelf.Strings.BuilderK
namespace Go.Proofs.YtcdmnodhkgiaaaaDoor
open Go.ChangeShapes Go.WideShapes Go.ChangeAt Go.RowKit
theorem iterAt_ne (w : World) (k : Nat) (s : ByteArray) (p j : Nat) (h : j ≠ k) : (w.iterAt k s p).heap[j]? = w.heap[j]? := by
  simp only [World.iterAt]
  rw [Array.getElem?_setIfInBounds, if_neg (fun e => h e.symm)]
theorem gby_iter (w : World) (k : Nat) (s : ByteArray) (p : Nat) : w.grownBy (w.iterAt k s p) (some k) := ⟨rfl, rfl, rfl, by simp [World.iterAt], fun j _ hn => iterAt_ne w k s p j (fun e => hn (by rw [e]))⟩
/-- What the loop of unhex keeps. -/
structure UxK (T nn : Nat) (r : Nat → Value) (B : Nat) (t : ByteArray) (w : World) (zs : List Int) (pos : Nat) (W : World) : Prop where
  bl : Bl w.heap.size (w.heap.size + 2) (zs.map (Value.int .u8)) W
  dg : Dgt true T nn r B W
  it : W.heap[w.heap.size + 1]? = some (.stringIter t pos)
  gr : w.grownBy W (some B)
  siz : w.heap.size + 2 ≤ W.heap.size
theorem UxK.next {T nn : Nat} {r : Nat → Value} {B : Nat} {t : ByteArray} {w : World} {zs : List Int} {pos : Nat} {W : World} (h : UxK T nn r B t w zs pos W) (hB : B < w.heap.size) (pos' : Nat) : UxK T nn r B t w zs pos' (W.iterAt (w.heap.size + 1) t pos') := by
  have hs := h.siz
  have hg := gby_iter W (w.heap.size + 1) t pos'
  refine ⟨?_, ?_, Lib.iterAt_heap W _ t pos pos' h.it, ?_, by simpa [World.iterAt] using hs⟩
  · obtain ⟨p, v, h1, h2, h3, h4⟩ := h.bl.ex
    refine ⟨p, v, h1, (iterAt_ne _ _ _ _ _ (by omega)).trans h2, h3.kept hg ?_, h4⟩
    cases hv : v.ownBlock with
    | none => exact .inl rfl
    | some j =>
      refine .inr fun e => ?_
      have := (h3.lt j hv).1
      simp only [Option.some.injEq] at e
      omega
  · rcases h.dg with h1 | ⟨m, hne, h1, hm⟩
    · exact .new (h1.of_block (iterAt_ne _ _ _ _ _ (by omega)))
    · refine .made m hne (h1.of_block (iterAt_ne _ _ _ _ _ (by omega))) fun e => omap_of (hm e) (iterAt_ne _ _ _ _ _ fun em => ?_)
      obtain ⟨es, c, e1, _⟩ := hm e
      rw [em, h.it] at e1
      cases e1
  · exact ⟨h.gr.os, h.gr.tape, h.gr.output, by simpa [World.iterAt] using h.gr.size, fun k hk hn => (iterAt_ne _ _ _ _ _ (by omega)).trans (h.gr.block k hk hn)⟩
theorem UxK.put {T nn : Nat} {r : Nat → Value} {B : Nat} {t : ByteArray} {w : World} {zs : List Int} {pos : Nat} {W W' : World} (h : UxK T nn r B t w zs pos W) (hB : B < w.heap.size) {z : Int} (hb : Bl w.heap.size (w.heap.size + 2) (zs.map (Value.int .u8) ++ [.int .u8 z]) W') (hk : KeepL w.heap.size (w.heap.size + 2) W W') : UxK T nn r B t w (zs ++ [z]) pos W' := by
  have hs := h.siz
  refine ⟨by simpa using hb, h.dg.keepL hk (by omega) (by omega), (hk.block _ (by omega) (by omega)).trans h.it, ?_, Nat.le_trans hs hk.size⟩
  exact ⟨hk.os.trans h.gr.os, hk.tape.trans h.gr.tape, hk.output.trans h.gr.output, Nat.le_trans h.gr.size hk.size, fun k hk1 hn => (hk.block k (by omega) (by omega)).trans (h.gr.block k hk1 hn)⟩
theorem UxK.val {T nn : Nat} {r : Nat → Value} {B : Nat} {t : ByteArray} {w : World} {zs : List Int} {pos : Nat} {W W' : World} (h : UxK T nn r B t w zs pos W) (hB : B < w.heap.size) (hd : DgM true T nn r B W') (hg : W.grownBy W' (some B)) : UxK T nn r B t w zs pos W' := by
  have hs := h.siz
  exact ⟨h.bl.grown hg (fun k e => by cases e; omega), Dgt.of hd, (hg.block _ (by omega) (by simp; omega)).trans h.it, gby_trans h.gr hg, Nat.le_trans hs hg.size⟩
/-- The value of a byte as a digit. -/
def valB (c : UInt8) : Option Nat := valD (c.toNat : Int)
theorem valD_lt {z : Int} {j : Nat} (h : valD z = some j) : j < 16 ∧ hexD j = z := by
  unfold valD at h
  exact ⟨List.mem_range.1 (List.mem_of_find?_eq_some h), by simpa using List.find?_some h⟩
theorem valD_high {z : Int} (h : 128 ≤ z) : valD z = none := by
  cases e : valD z with
  | none => rfl
  | some j =>
    obtain ⟨h1, h2⟩ := valD_lt e
    have := (hexD_lt h1).2
    omega
/-- The bytes that pairs of digits tell. -/
def decZ : List UInt8 → List Int
  | a :: b :: r => (16 * ((valB a).getD 0) + (valB b).getD 0 : Nat) :: decZ r
  | _ => []
def allX (l : List UInt8) : Bool := l.all fun c => (valB c).isSome
theorem allX_snoc (l : List UInt8) (a : UInt8) : allX (l ++ [a]) = (allX l && (valB a).isSome) := by simp [allX]
theorem allX_none {l : List UInt8} {a : UInt8} (h : a ∈ l) (hn : valB a = none) : allX l = false := by
  unfold allX
  rw [List.all_eq_false]
  exact ⟨a, h, by simp [hn]⟩
theorem decZ_one : ∀ (l : List UInt8) (a : UInt8), l.length % 2 = 0 → decZ (l ++ [a]) = decZ l
  | [], _, _ => rfl
  | [_], _, h => by simp at h
  | x :: y :: l, a, h => by
    simp only [List.cons_append, decZ]
    rw [decZ_one l a (by simp at h; omega)]
theorem decZ_two : ∀ (l : List UInt8) (a b : UInt8), l.length % 2 = 0 → decZ (l ++ [a] ++ [b]) = decZ l ++ [((16 * ((valB a).getD 0) + (valB b).getD 0 : Nat) : Int)]
  | [], _, _, _ => rfl
  | [_], _, _, h => by simp at h
  | x :: y :: l, a, b, h => by
    simp only [List.cons_append, decZ]
    rw [decZ_two l a b (by simp at h; omega)]
theorem valB_lt (a : UInt8) : (valB a).getD 0 < 16 := by
  cases e : valB a with
  | none => simp
  | some j => exact (valD_lt e).1
theorem decZ_len : ∀ l : List UInt8, (decZ l).length ≤ l.length
  | [] => by simp [decZ]
  | [_] => by simp [decZ]
  | _ :: _ :: l => by have := decZ_len l; simp only [decZ, List.length_cons]; omega
def decB (l : List UInt8) : List UInt8 := (decZ l).map fun z => UInt8.ofNat z.toNat
theorem decB_cells : ∀ l : List UInt8, Lib.byteCells (decB l) = (decZ l).map fun z => Value.int .u8 z
  | [] => rfl
  | [_] => rfl
  | a :: b :: l => by
    have ih := decB_cells l
    have h1 := valB_lt a
    have h2 := valB_lt b
    have e : (((UInt8.ofNat ((16 * ((valB a).getD 0) + (valB b).getD 0 : Nat) : Int).toNat).toNat : Nat) : Int) = ((16 * ((valB a).getD 0) + (valB b).getD 0 : Nat) : Int) := by
      rw [UInt8.toNat_ofNat', Int.toNat_natCast]
      omega
    simp only [decB, decZ, List.map_cons, Lib.byteCells] at ih ⊢
    rw [e, ih]
theorem or_nibF : ∀ z j : Fin 16, bits BinOp.or IntKind.u8 ((z.1 : Int) * 16) (j.1 : Int) = ((16 * z.1 + j.1 : Nat) : Int) := by decide
theorem or_nib {z j : Nat} (hz : z < 16) (hj : j < 16) : bits BinOp.or IntKind.u8 ((z : Int) * 16) (j : Int) = ((16 * z + j : Nat) : Int) := or_nibF ⟨z, hz⟩ ⟨j, hj⟩
/-- What unhex answers. -/
def unhA (t : ByteArray) : Value := if t.size % 2 = 0 ∧ allX t.data.toList = true then .tuple #[.string ⟨(decB t.data.toList).toArray⟩, .bool true] else .tuple #[.string ⟨#[]⟩, .bool false]
set_option maxRecDepth 100000 in
set_option maxHeartbeats 4000000 in
theorem unhex_any {T nn : Nat} {r : Nat → Value} (hnn : 20 ≤ nn) (B : Nat) (t : ByteArray) (ht : t.size ≤ 20000) (w : World) (h : Dgt true T nn r B w) (hB : B < w.heap.size) :
    Calls Tryd.prog 52 #[.pointer (some ⟨B, 0, none⟩), .string t] w fun e w' => e = .returned (unhA t) ∧ Dgt true T nn r B w' ∧ w.grownBy w' (some B) := by
  by_cases hodd : t.size % 2 = 0
  case neg =>
    have HO : Hid (unhA t = .tuple #[.string ⟨#[]⟩, .bool false]) := if_neg fun e => hodd e.1
    have hod : ((t.size : Int).tmod 2 != 0) = true := by
      rw [Int.tmod_eq_emod_of_nonneg (by omega)]
      simp
      omega
    have hg0 : w.grownBy w (some B) := ⟨rfl, rfl, rfl, Nat.le_refl _, fun _ _ _ => rfl⟩
    go_enter Tryd.func52, Tryd.ntmps52
    go_wp2
    refine bodyPost_ret (v := .tuple #[.string ⟨#[]⟩, .bool false]) (by simp [results, Tryd.results52, go_sem]; try rfl) rfl ?_
    exact ⟨by rw [HO.out], h, hg0⟩
  have hod : ((t.size : Int).tmod 2 != 0) = false := by
    rw [Int.tmod_eq_emod_of_nonneg (by omega)]
    simp
    omega
  have HW : Hid (UxK T nn r B t w [] 0 ((w.alloc (.cells #[.pointer none, .slice none 0 0] 87)).iter t 0)) := by
    obtain ⟨W0, hW0⟩ : ∃ W0, w.alloc (.cells #[.pointer none, .slice none 0 0] 87) = W0 := ⟨_, rfl⟩
    have hb0 : Below w.heap.size w W0 := by rw [← hW0]; exact (Below.refl _ _).alloc (Nat.le_refl _) _
    have hx0 : W0.heap[w.heap.size]? = some (.cells #[.pointer none, .slice none 0 0] 87) := by rw [← hW0]; exact World.alloc_heap_new _ _
    have hs0 : W0.heap.size = w.heap.size + 1 := by rw [← hW0]; simp
    have hB1 : Below w.heap.size w (W0.iter t 0) := hb0.alloc (by omega) _
    have hi := World.iter_heap W0 t 0
    rw [hs0] at hi
    have hb1 : Below W0.heap.size W0 (W0.iter t 0) := (Below.refl _ _).alloc (Nat.le_refl _) _
    try rw [hW0]
    refine ⟨⟨_, _, .inl rfl, (hb1.block _ (by omega)).trans hx0, World.ownsRow_nil _ _ _ _, by simp [Value.ownBlock]⟩, h.below hB1, hi, ⟨hB1.os, hB1.tape, hB1.output, hB1.size, fun k hk _ => hB1.block k hk⟩, by simp [World.iter, hs0]⟩
  clear h
  go_enter Tryd.func52, Tryd.ntmps52
  go_wp2
  rw [show (((t.size : Int) % 2) != 0) = false from by simp; omega]
  go_loopw [7] (fun hi wr => ∃ pos z : Nat, hi = .int .u8 (z : Int) ∧ pos ≤ t.size ∧ z < 16 ∧ allX (t.data.toList.take pos) = true ∧ (pos % 2 = 1 → ∃ a, t.data.toList.take pos = t.data.toList.take (pos - 1) ++ [a] ∧ (valB a).getD 0 = z) ∧ UxK T nn r B t w (decZ (t.data.toList.take pos)) pos wr) (fun _ wr => t.size - wr.iterPos (w.heap.size + 1))
  case atStart => exact ⟨0, 0, rfl, by omega, by omega, rfl, fun e => by omega, HW.out⟩
  case round =>
    obtain ⟨pos, z, rfl, hps, hz, hall, hlast, hI⟩ := hrel
    have HI : Hid (UxK T nn r B t w (decZ (t.data.toList.take pos)) pos wr) := hI
    have HL : Hid (pos % 2 = 1 → ∃ a, t.data.toList.take pos = t.data.toList.take (pos - 1) ++ [a] ∧ (valB a).getD 0 = z) := hlast
    have HA : Hid (allX (t.data.toList.take pos) = true) := hall
    have hmu : Hid (wr.iterPos (w.heap.size + 1) = pos) := show wr.iterPos (w.heap.size + 1) = pos by simp [World.iterPos, hI.it]
    clear hI hlast hall HW
    by_cases hp : pos < t.size
    · obtain ⟨x, hxx⟩ : ∃ x, x = t.data.toList[pos]'(by exact hp) := ⟨_, rfl⟩
      have HX : Hid (t.data.toList[pos]? = some x) := by rw [hxx]; exact List.getElem?_eq_getElem _
      have hx' : (t[pos]'hp) = x := by rw [hxx]; rfl
      obtain ⟨zr, wd, hnext, hbd, hval, hwd⟩ : ∃ (zr : Int) (wd : Nat), (∀ ty, (Instr.next (.pointer (some ⟨w.heap.size + 1, 0, none⟩)) true ty).run Tryd.prog wr = .ok (.tuple #[.bool true, .int .i64 pos, .int .i32 zr]) (wr.iterAt (w.heap.size + 1) t (pos + wd))) ∧ (-2147483648 ≤ zr ∧ zr ≤ 2147483647) ∧ valD zr = valB x ∧ (∀ j, valD zr = some j → wd = 1) := by
        by_cases hx : x.toNat < 128
        · refine ⟨(x.toNat : Int), 1, fun ty => ?_, by omega, rfl, fun _ _ => rfl⟩
          have := Lib.run_next_ascii_at (P := Tryd.prog) wr (w.heap.size + 1) t pos ty HI.out.it hp (by rw [hx']; exact hx)
          rw [hx'] at this
          exact this
        · have hd := decode_high t pos hp (by rw [hx']; omega)
          have hl := Lib.rune_le t pos
          refine ⟨((Utf8.decode t pos).1 : Int), _, fun ty => Lib.run_next_any_at wr (w.heap.size + 1) t pos ty HI.out.it hp, by omega, ?_, fun j e => ?_⟩
          · rw [valD_high (by omega)]
            exact (valD_high (by omega)).symm
          · rw [valD_high (by omega)] at e
            cases e
      have H1 : Hid (UxK T nn r B t w (decZ (t.data.toList.take pos)) (pos + wd) (wr.iterAt (w.heap.size + 1) t (pos + wd))) := HI.out.next hB _
      clear HI
      generalize wr.iterAt (w.heap.size + 1) t (pos + wd) = W1 at hnext H1
      have Q := value_any hnn B zr hbd W1 H1.out.dg
      have hmem : x ∈ t.data.toList := List.mem_of_getElem? HX.out
      clear hxx hx'
      rcases hv : valD zr with _ | j
      · have HO : Hid (unhA t = .tuple #[.string ⟨#[]⟩, .bool false]) := if_neg fun e => by rw [allX_none hmem (hval.symm.trans hv)] at e; cases e.2
        simp only [hv, Option.map_none, Option.getD_none, Option.isSome_none] at Q
        clear hv hwd hval hmem HL HA HX hbd
        go_wp2_with fail
        refine Q.mono ?_
        rintro e W2 ⟨rfl, hd, hg⟩
        have H2 : Hid (UxK T nn r B t w (decZ (t.data.toList.take pos)) (pos + wd) W2) := H1.out.val hB hd hg
        clear hd hg Q H1 hnext
        go_wp2
        refine bodyPost_ret (v := .tuple #[.string ⟨#[]⟩, .bool false]) (by simp [results, Tryd.results52, go_sem]; try rfl) rfl ?_
        exact ⟨by rw [HO.out], H2.out.dg, H2.out.gr⟩
      · obtain rfl := hwd j hv
        have hj := (valD_lt hv).1
        have HV : Hid (valB x = some j) := hval.symm.trans hv
        have hsz : (decZ (t.data.toList.take pos)).length ≤ 20000 := Nat.le_trans (decZ_len _) (by rw [List.length_take]; omega)
        have htk : t.data.toList.take (pos + 1) = t.data.toList.take pos ++ [x] := by rw [List.take_add_one, HX.out]; rfl
        have HA1 : Hid (allX (t.data.toList.take (pos + 1)) = true) := by
          show allX (t.data.toList.take (pos + 1)) = true
          rw [htk, allX_snoc, HA.out, HV.out]; rfl
        have HT : Hid (t.data.toList.take (pos + 1) = t.data.toList.take pos ++ [x]) := htk
        have htl : Hid ((t.data.toList.take pos).length = pos) := show (t.data.toList.take pos).length = pos by rw [List.length_take]; exact Nat.min_eq_left hps
        simp only [hv, Option.map_some, Option.getD_some, Option.isSome_some] at Q
        clear hv hwd hval hmem HX hbd htk HA
        by_cases hpar : pos % 2 = 0
        · have hq : ((pos : Int).tmod 2 == 0) = true := by
            rw [Int.tmod_eq_emod_of_nonneg (by omega)]
            simp
            omega
          go_wp2_with fail
          refine Q.mono ?_
          rintro e W2 ⟨rfl, hd, hg⟩
          have H2 : Hid (UxK T nn r B t w (decZ (t.data.toList.take (pos + 1))) (pos + 1) W2) := by
            have h2 := H1.out.val hB hd hg
            rw [HT.out, decZ_one _ _ (by rw [htl.out]; exact hpar)]
            exact h2
          clear hd hg Q H1 hnext
          go_wp2
          go_roundw
          case rel => exact ⟨pos + 1, j, rfl, by omega, hj, HA1.out, fun _ => ⟨x, HT.out, by rw [HV.out]; rfl⟩, H2.out⟩
          case measure =>
            have hmu2 : W2.iterPos (w.heap.size + 1) = pos + 1 := by simp [World.iterPos, H2.out.it]
            rw [hmu.out, hmu2]
            omega
        · have hq : ((pos : Int).tmod 2 == 0) = false := by
            rw [Int.tmod_eq_emod_of_nonneg (by omega)]
            simp
            omega
          go_wp2_with fail
          refine Q.mono ?_
          rintro e W2 ⟨rfl, hd, hg⟩
          have H2 : Hid (UxK T nn r B t w (decZ (t.data.toList.take pos)) (pos + 1) W2) := H1.out.val hB hd hg
          clear hd hg Q H1 hnext
          go_wp2_with fail
          rw [or_nib hz hj]
          refine (writeByte_b w.heap.size (w.heap.size + 2) _ ((16 * z + j : Nat) : Int) _ H2.out.bl (by rw [List.length_map]; omega) H2.out.siz).mono ?_
          rintro e W3 ⟨rfl, hb3, hk3⟩
          have H3 : Hid (UxK T nn r B t w (decZ (t.data.toList.take (pos + 1))) (pos + 1) W3) := by
            have h3 := H2.out.put hB hb3 hk3
            obtain ⟨a, ea, va⟩ := HL.out (by omega)
            have hl1 : (t.data.toList.take (pos - 1)).length % 2 = 0 := by
              rw [List.length_take]
              have : t.data.toList.length = t.size := rfl
              omega
            have e3 : decZ (t.data.toList.take (pos + 1)) = decZ (t.data.toList.take pos) ++ [((16 * z + j : Nat) : Int)] := by
              rw [HT.out, ea, decZ_two _ _ _ hl1, decZ_one _ _ hl1, va, HV.out]
              rfl
            rw [e3]
            exact h3
          clear hb3 hk3 H2
          go_wp2
          go_roundw
          case rel => exact ⟨pos + 1, z, rfl, by omega, hz, HA1.out, fun e => by omega, H3.out⟩
          case measure =>
            have hmu2 : W3.iterPos (w.heap.size + 1) = pos + 1 := by simp [World.iterPos, H3.out.it]
            rw [hmu.out, hmu2]
            omega
    · obtain rfl : pos = t.size := by omega
      have hnext : ∀ ty, (Instr.next (.pointer (some ⟨w.heap.size + 1, 0, none⟩)) true ty).run Tryd.prog wr = _ := fun ty => Lib.run_next_end_at (P := Tryd.prog) wr (w.heap.size + 1) t t.size ty HI.out.it hp
      have hB' := HI.out.bl.isB (B := w.heap.size) (Nat.le_refl _) (by omega)
      have htk : t.data.toList.take t.size = t.data.toList := List.take_of_length_le (Nat.le_refl _)
      rw [htk, ← decB_cells] at hB'
      have HO : Hid (unhA t = .tuple #[.string ⟨(decB t.data.toList).toArray⟩, .bool true]) := by
        have ha := HA.out
        rw [htk] at ha
        exact if_pos ⟨hodd, ha⟩
      have hzz : w.heap.size ≤ wr.heap.size := by have := HI.out.siz; omega
      have QS := Any.Builder_String_any_k laysSt extraB w.heap.size w.heap.size (decB t.data.toList) wr (Lib.IsBuilderF.of hB') hzz
      clear hB' htk HA HL
      go_wp2_with fail
      refine QS.mono ?_
      rintro e w5 ⟨rfl, _, hb5, hk5⟩
      have HE : Hid (Dgt true T nn r B w5 ∧ w.grownBy w5 (some B)) := by
        have g := HI.out.gr
        refine ⟨?_, ⟨hb5.os.trans g.os, hb5.tape.trans g.tape, hb5.output.trans g.output, Nat.le_trans g.size hb5.size, fun k hk hn => (hb5.block k hk).trans (g.block k hk hn)⟩⟩
        rcases HI.out.dg with h | ⟨m, hne, h, hm⟩
        · exact .new (h.of_block (hb5.block B hB))
        · refine .made m hne (h.of_block (hb5.block B hB)) fun hmp => ?_
          obtain ⟨es, c, e, r⟩ := hm hmp
          have hbx := (Array.getElem?_eq_some_iff.1 e).1
          refine ⟨es, c, hk5 m _ e (fun ee => ?_) (fun c fz ee => by cases ee), r⟩
          obtain ⟨p0, v0, _, hb0, _⟩ := HI.out.bl.ex
          simp only [Option.some.injEq] at ee
          rw [ee, hb0] at e
          cases e
      clear hb5 hk5 QS
      go_wp2
      refine bodyPost_ret (v := .tuple #[.string ⟨(decB t.data.toList).toArray⟩, .bool true]) (by simp [results, Tryd.results52, go_sem]; try rfl) rfl ?_
      exact ⟨by rw [HO.out], HE.out⟩
end Go.Proofs.YtcdmnodhkgiaaaaDoor
