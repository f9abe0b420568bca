/- Texts of ours put together: TextG, ShLen, TextsG, RightSpec. -/
import Derived.Test.YtkaolpnbddjdpaaGreatDoorG45
import Derived.Test.YtkaolpnbddjdpaaGreatDoorG00
import Derived.Test.YtkaolpnbddjdpaaGreatDoorG46
import Derived.Deep.RegionHeld3
import Derived.Deep.QuietTactic
import Derived.BigQuiet
import Derived.WalkSmall
namespace Go.Proofs.YtkaolpnbddjdpaaGreatDoor
open Go.ChangeShapes Go.WideShapes Go.ChangeAt Go.RowKit
/-- A mark's byte. -/
def mB (x : Int) : UInt8 := UInt8.ofNat (x % 256).toNat
theorem mB_num (x : Int) : ((mB x).toNat : Int) = x % 256 := by
  unfold mB
  simp
  omega
/-- The bytes of a text, escaped. -/
def escB (a b c d : Int) (s : ByteArray) : List UInt8 := (strOfNums (esc a b c d (upto s d s.size))).data.toList
theorem escB_len (a b c d : Int) (s : ByteArray) : (escB a b c d s).length ≤ 2 * s.size := by
  unfold escB
  rw [strOfNums_data, List.length_map]
  have := esc_len a b c d (upto s d s.size)
  rwa [upto_length] at this
/-- The first parts of an element, with what stands ahead of each. -/
def iU (a b c d : Int) (ss : List ByteArray) : Nat → List UInt8
  | 0 => []
  | k + 1 => iU a b c d ss k ++ ((if k = 0 then mB b else mB c) :: escB a b c d (ss[k]?.getD ⟨#[]⟩))
/-- The Tag and the first elements. -/
def segU (a b c d : Int) (tag : ByteArray) (es : List (List ByteArray)) : Nat → List UInt8
  | 0 => tag.data.toList
  | k + 1 => segU a b c d tag es k ++ iU a b c d (es[k]?.getD []) (es[k]?.getD []).length
def textU (a b c d : Int) (tag : ByteArray) (es : List (List ByteArray)) : List UInt8 := segU a b c d tag es es.length ++ [mB a]
def textG (a b c d : Int) (tag : ByteArray) (es : List (List ByteArray)) : ByteArray := if (rightB a b c d && rightG tag es) = true then ⟨(textU a b c d tag es).toArray⟩ else ⟨#[]⟩
theorem textG_no {a b c d : Int} {tag : ByteArray} {es : List (List ByteArray)} (h : rightB a b c d = false ∨ rightG tag es = false) : textG a b c d tag es = ⟨#[]⟩ := by
  unfold textG
  rcases h with h | h <;> rw [h] <;> simp
theorem textG_yes {a b c d : Int} {tag : ByteArray} {es : List (List ByteArray)} (h : rightB a b c d = true) (h' : rightG tag es = true) : textG a b c d tag es = ⟨(textU a b c d tag es).toArray⟩ := by
  unfold textG
  rw [h, h']
  rfl
/-- What is known of a right segment's sizes. -/
theorem partB_size {t : ByteArray} (h : partB t = true) : t.size ≤ 40 := by
  unfold partB at h
  simp only [Bool.and_eq_true, decide_eq_true_eq] at h
  exact h.1
theorem elB_facts {ss : List ByteArray} (h : elB ss = true) : 1 ≤ ss.length ∧ ss.length ≤ 4 ∧ ∀ (j : Nat) (t : ByteArray), ss[j]? = some t → partB t = true := by
  unfold elB at h
  simp only [Bool.and_eq_true, decide_eq_true_eq, List.all_eq_true] at h
  exact ⟨h.1, h.2.1, fun j t hj => h.2.2.2 t (List.mem_of_getElem? hj)⟩
theorem rightG_facts {tag : ByteArray} {es : List (List ByteArray)} (h : rightG tag es = true) : tag.size = 3 ∧ es.length ≤ 10 ∧ ∀ (j : Nat) (ss : List ByteArray), es[j]? = some ss → elB ss = true := by
  unfold rightG tagB at h
  simp only [Bool.and_eq_true, decide_eq_true_eq, List.all_eq_true] at h
  exact ⟨h.1.1, h.2.1, fun j t hj => h.2.2.2 t (List.mem_of_getElem? hj)⟩
theorem iU_len {a b c d : Int} {ss : List ByteArray} (h : ∀ (j : Nat) (t : ByteArray), ss[j]? = some t → partB t = true) : ∀ k, k ≤ ss.length → (iU a b c d ss k).length ≤ 81 * k := by
  intro k
  induction k with
  | zero => intro _; simp [iU]
  | succ k ih =>
    intro hk
    have h1 := ih (by omega)
    have hs : ss[k]? = some ss[k] := List.getElem?_eq_getElem (by omega)
    have h2 := partB_size (h k _ hs)
    have h3 := escB_len a b c d ss[k]
    simp only [iU, hs, Option.getD_some, List.length_append, List.length_cons]
    omega
theorem segU_len {a b c d : Int} {tag : ByteArray} {es : List (List ByteArray)} (h : rightG tag es = true) : ∀ k, k ≤ es.length → (segU a b c d tag es k).length ≤ 3 + 324 * k := by
  obtain ⟨h1, h2, h3⟩ := rightG_facts h
  intro k
  induction k with
  | zero => intro _; simp [segU]; omega
  | succ k ih =>
    intro hk
    have i1 := ih (by omega)
    have hs : es[k]? = some es[k] := List.getElem?_eq_getElem (by omega)
    obtain ⟨e1, e2, e3⟩ := elB_facts (h3 k _ hs)
    have i2 := iU_len (a := a) (b := b) (c := c) (d := d) e3 _ (Nat.le_refl _)
    simp only [segU, hs, Option.getD_some, List.length_append]
    omega
theorem builder_keep {T e B b : Nat} {p : Value} {bs : List Value} {W W' : World} (h : Lib.BuilderAt T e B b p bs W) (hb : Below W.heap.size W W') : Lib.BuilderAt T e B b p bs W' := by
  have hlt := h.lt
  obtain ⟨h1, v, h2, h3, h4⟩ := h
  have hg : W.grownBy W' none := ⟨hb.os, hb.tape, hb.output, hb.size, fun k hk _ => hb.block k hk⟩
  refine ⟨h1, v, (hb.block b hlt).trans h2, h3.kept hg ?_, h4⟩
  cases h1 : v.ownBlock
  · exact .inl rfl
  · exact .inr (by simp)
theorem byteCells_app (l m : List UInt8) : Lib.byteCells (l ++ m) = Lib.byteCells l ++ Lib.byteCells m := by simp [Lib.byteCells]
theorem byteCells_str (s : ByteArray) : Lib.strCells s = Lib.byteCells s.data.toList := rfl
theorem byteCells_len (l : List UInt8) : (Lib.byteCells l).length = l.length := by simp [Lib.byteCells]
theorem byteCells_mark (x : Int) : Lib.byteCells [mB x] = [.int .u8 (x % 256)] := by
  simp only [Lib.byteCells, List.map_cons, List.map_nil, mB_num]
/-- What stands while a segment is told: the syntax's block and the segment's block lie as they lay. -/
structure TS (w W : World) (a b c d : Int) (tag : ByteArray) (v : Value) (es : List (List ByteArray)) : Prop where
  bel : Below w.heap.size w W
  sx : W.heap[w.heap.size]? = some (.cells #[.int .i64 a, .int .i64 b, .int .i64 c, .int .i64 d] 24)
  gx : W.heap[w.heap.size + 1]? = some (.cells #[.string tag, v] 90)
  row : RowE W v es
theorem TS.below {w W W' : World} {a b c d : Int} {tag : ByteArray} {v : Value} {es : List (List ByteArray)} (h : TS w W a b c d tag v es) (hb : Below W.heap.size W W') : TS w W' a b c d tag v es :=
  ⟨h.bel.trans (hb.mono h.bel.size), (hb.block _ (Array.getElem?_eq_some_iff.1 h.sx).1).trans h.sx, (hb.block _ (Array.getElem?_eq_some_iff.1 h.gx).1).trans h.gx, h.row.below hb⟩
theorem TS.begun {w : World} (a b c d : Int) (tag : ByteArray) {v : Value} {es : List (List ByteArray)} (h : RowE w v es) : TS w ((w.alloc (.cells #[.int .i64 a, .int .i64 b, .int .i64 c, .int .i64 d] 24)).alloc (.cells #[.string tag, v] 90)) a b c d tag v es :=
  ⟨((Below.refl _ _).alloc (Nat.le_refl _) _).alloc (by simp) _, (Below.heap_alloc _ _ _ (by simp)).trans (World.alloc_heap_new w _), heap_new2 w _ _, h.below (((Below.refl _ _).alloc (Nat.le_refl _) _).alloc (by simp) _)⟩
theorem TS.cells {w W : World} {a b c d : Int} {tag : ByteArray} {v : Value} {es : List (List ByteArray)} (h : TS w W a b c d tag v es) :
    W.cell? ⟨w.heap.size, 0, none⟩ = some (.int .i64 a) ∧ W.cell? ⟨w.heap.size, 1, none⟩ = some (.int .i64 b) ∧ W.cell? ⟨w.heap.size, 2, none⟩ = some (.int .i64 c) ∧ W.cell? ⟨w.heap.size, 3, none⟩ = some (.int .i64 d) ∧ W.cell? ⟨w.heap.size + 1, 0, none⟩ = some (.string tag) ∧ W.cell? ⟨w.heap.size + 1, 1, none⟩ = some v := by
  have h1 := h.sx
  have h2 := h.gx
  exact ⟨by simp [World.cell?, h1], by simp [World.cell?, h1], by simp [World.cell?, h1], by simp [World.cell?, h1], by simp [World.cell?, h2], by simp [World.cell?, h2]⟩
theorem TS.lt {w W : World} {a b c d : Int} {tag : ByteArray} {v : Value} {es : List (List ByteArray)} (h : TS w W a b c d tag v es) : w.heap.size + 1 < W.heap.size := (Array.getElem?_eq_some_iff.1 h.gx).1
set_option maxHeartbeats 2000000 in
theorem text_seg_impl (a b c d : Int) (tag : ByteArray) (v : Value) (es : List (List ByteArray)) (w : World) (h : RowE w v es) (hE : BdE 1048576 es) :
    Calls Tryz.prog 68 #[.agg #[.int .i64 a, .int .i64 b, .int .i64 c, .int .i64 d], .agg #[.string tag, v]] w fun e w' => e = .returned (.string (textG a b c d tag es)) ∧ Below w.heap.size w w' := by
  obtain ⟨A, cap, rfl⟩ := h.val
  have hl := hE.1
  have hT := TS.begun a b c d tag h
  clear h
  have HE : Hid (BdE 1048576 es) := hE
  clear hE
  go_enter Tryz.func68, Tryz.ntmps68
  go_wp2_with fail
  refine (right_impl a b c d _).mono ?_
  rintro e w1 ⟨rfl, hb1⟩
  have hT1 := hT.below hb1
  clear hb1 hT
  cases hr : rightB a b c d
  · have HB : Hid (Below w.heap.size w w1) := hT1.bel
    clear hT1
    go_wp2
    go_ret
    exact ⟨ret_str (textG_no (.inl hr)).symm, HB.out⟩
  obtain ⟨x0, x1, x2, x3, x4, x5⟩ := hT1.cells
  go_wp2_with fail
  refine (right_seg_impl tag _ es _ hT1.row HE.out).mono ?_
  rintro e w2 ⟨rfl, hb2⟩
  have hT2 := hT1.below hb2
  clear hb2 hT1 x0 x1 x2 x3 x4 x5
  cases hg : rightG tag es
  · have HB : Hid (Below w.heap.size w w2) := hT2.bel
    clear hT2
    go_wp2
    go_ret
    exact ⟨ret_str (textG_no (.inr hg)).symm, HB.out⟩
  obtain ⟨x0, x1, x2, x3, x4, x5⟩ := hT2.cells
  have hlt2 := hT2.lt
  have n1 : w.heap.size ≠ w2.heap.size := by omega
  have n2 : w.heap.size + 1 ≠ w2.heap.size := by omega
  have q1 := segU_len (a := a) (b := b) (c := c) (d := d) hg
  obtain ⟨r1, r2, r3⟩ := rightG_facts hg
  have HQ : Hid ((∀ k, k ≤ es.length → (segU a b c d tag es k).length ≤ 3 + 324 * k) ∧ (∀ (j : Nat) (ss : List ByteArray), es[j]? = some ss → elB ss = true)) := ⟨q1, r3⟩
  clear q1 r3
  have HT : Hid (TS w w2 a b c d tag (.slice A es.length cap) es) := hT2
  clear hT2
  go_wp2_with fail
  have hI : Lib.IsBuilder 105 5 w2.heap.size w2.heap.size [] (w2.alloc (.cells #[.pointer none, .slice none 0 0] 105)) := .inl ⟨Nat.le_refl _, .slice none 0 0, World.alloc_heap_new w2 _, World.ownsRow_nil _ _ _ _, by simp [Value.ownBlock]⟩
  refine (writeString_any w2.heap.size w2.heap.size [] tag _ hI (by simp; omega) (by simp)).mono ?_
  rintro e w3 ⟨rfl, hB3, hb3⟩
  rw [List.nil_append, byteCells_str] at hB3
  have hb3' : Below w2.heap.size w2 w3 := ((Below.refl _ _).alloc (Nat.le_refl _) _).trans hb3
  obtain ⟨x0, x1, x2, x3, x4, x5⟩ := (HT.out.below hb3').cells
  have H3 : Hid (Lib.BuilderAt 105 5 w2.heap.size w2.heap.size (.pointer (some ⟨w2.heap.size, 0, none⟩)) (Lib.byteCells (segU a b c d tag es 0)) w3 ∧ Below w2.heap.size w2 w3) := ⟨hB3, hb3'⟩
  clear hI hB3 hb3 hb3'
  go_wp2_with fail
  go_loopw [25] (fun i wr => ∃ k : Nat, i = .int .i64 (k : Int) ∧ k ≤ es.length ∧ Lib.BuilderAt 105 5 w2.heap.size w2.heap.size (.pointer (some ⟨w2.heap.size, 0, none⟩)) (Lib.byteCells (segU a b c d tag es k)) wr ∧ Below w2.heap.size w2 wr) (fun i _ => es.length - (intOf i).toNat)
  case atStart => exact ⟨0, rfl, by omega, H3.out.1, H3.out.2⟩
  case round =>
    obtain ⟨k, rfl, hk, hB, hb⟩ := hrel
    rename World => wo
    have q1 := HQ.out.1 k hk
    by_cases hlt : k < es.length
    · have hlt' : (k : Int) < (es.length : Int) := by omega
      obtain ⟨b1, o1, c1, ss, u, e, hs, hc, hS⟩ := HT.out.row.at hlt
      have hcw : wo.cell? ⟨b1, o1 + k, none⟩ = some u := (hb.cell (p := ⟨b1, o1 + k, none⟩) (cell_lt hc)).trans hc
      simp only [Value.slice.injEq, true_and] at e
      obtain ⟨rfl, rfl⟩ := e
      obtain ⟨a2, cap2, rfl⟩ := hS.val
      obtain ⟨p1, p2, p3⟩ := elB_facts (HQ.out.2 k ss hs)
      have q2 := iU_len (a := a) (b := b) (c := c) (d := d) p3
      obtain ⟨x0, x1, x2, x3, x4, x5⟩ := (HT.out.below hb).cells
      have hwr : w2.heap.size ≤ wo.heap.size := hb.size
      have m1 : w.heap.size ≠ wo.heap.size := by omega
      obtain ⟨y0, y1, y2, y3, y4, y5⟩ := ((HT.out.below hb).below ((Below.refl _ _).alloc (Nat.le_refl _) (.cells #[.slice a2 ss.length cap2] 141))).cells
      have HS : Hid (es[k]? = some ss ∧ RowS w2 (.slice a2 ss.length cap2) ss ∧ (∀ (j : Nat) (t : ByteArray), ss[j]? = some t → partB t = true) ∧ (∀ m, m ≤ ss.length → (iU a b c d ss m).length ≤ 81 * m)) := ⟨hs, hS, p3, q2⟩
      have HB : Hid (Lib.BuilderAt 105 5 w2.heap.size w2.heap.size (.pointer (some ⟨w2.heap.size, 0, none⟩)) (Lib.byteCells (segU a b c d tag es k)) wo ∧ Below w2.heap.size w2 wo) := ⟨hB, hb⟩
      clear hs hS p3 q2 hB hb
      go_wp2_with fail
      go_loopw [8, 34] (fun mk i wi => ∃ (m : Nat) (y : Int), mk = .int .i64 y ∧ i = .int .i64 (m : Int) ∧ m ≤ ss.length ∧ mB y = (if m = 0 then mB b else mB c) ∧ Lib.BuilderAt 105 5 w2.heap.size w2.heap.size (.pointer (some ⟨w2.heap.size, 0, none⟩)) (Lib.byteCells (segU a b c d tag es k ++ iU a b c d ss m)) wi ∧ Below w2.heap.size w2 wi) (fun _ i _ => ss.length - (intOf i).toNat)
      case atStart =>
        refine ⟨0, b, rfl, rfl, by omega, rfl, ?_, HB.out.2.alloc hwr _⟩
        have := builder_keep HB.out.1 ((Below.refl _ _).alloc (Nat.le_refl _) (.cells #[.slice a2 ss.length cap2] 141))
        simpa [iU] using this
      case round =>
        obtain ⟨m, y, rfl, rfl, hm, hy, hBm, hbm⟩ := hrel
        have q3 := HS.out.2.2.2 m hm
        by_cases hml : m < ss.length
        · have hml' : (m : Int) < (ss.length : Int) := by omega
          obtain ⟨b3, o3, c3, t, e3, ht, hc3, hsz⟩ := (HS.out.2.1.below hbm).at hml
          simp only [Value.slice.injEq, true_and] at e3
          obtain ⟨rfl, rfl⟩ := e3
          have htl := partB_size (HS.out.2.2.1 m t ht)
          obtain ⟨z0, z1, z2, z3, z4, z5⟩ := (HT.out.below hbm).cells
          have hwi : w2.heap.size ≤ wr.heap.size := hbm.size
          have HM : Hid (ss[m]? = some t ∧ mB y = (if m = 0 then mB b else mB c)) := ⟨ht, hy⟩
          clear ht hy
          go_wp2_with fail
          refine (writeByte_any w2.heap.size w2.heap.size _ _ _ (.inr hBm) (by rw [byteCells_len, List.length_append]; omega) hwi).mono ?_
          rintro e w5 ⟨rfl, hB5, hb5⟩
          rw [← byteCells_mark, ← byteCells_app] at hB5
          have hb5' : Below w2.heap.size w2 w5 := hbm.trans hb5
          have hw5 : w2.heap.size ≤ w5.heap.size := hb5'.size
          obtain ⟨z0, z1, z2, z3, z4, z5⟩ := (HT.out.below hb5').cells
          clear hBm hbm hb5
          go_wp2_with fail
          refine (escape_right a b c d t _ hr (by omega)).mono ?_
          rintro e w6 ⟨rfl, hb6⟩
          have hB6 := builder_keep hB5 hb6
          have hb6' : Below w2.heap.size w2 w6 := hb5'.trans (hb6.mono hw5)
          have hw6 : w2.heap.size ≤ w6.heap.size := hb6'.size
          have hsz6 : (strOfNums (esc a b c d (upto t d t.size))).size ≤ 80 := by
            have := escB_len a b c d t
            unfold escB at this
            have e6 : (strOfNums (esc a b c d (upto t d t.size))).data.toList.length = (strOfNums (esc a b c d (upto t d t.size))).size := by simp
            omega
          clear hb6 hB5 hb5'
          go_wp2_with fail
          refine (writeString_any w2.heap.size w2.heap.size _ _ _ (.inr hB6) (by rw [byteCells_len, List.length_append, List.length_append]; simp; omega) hw6).mono ?_
          rintro e w7 ⟨rfl, hB7, hb7⟩
          rw [byteCells_str, ← byteCells_app] at hB7
          have hb7' : Below w2.heap.size w2 w7 := hb6'.trans hb7
          obtain ⟨v0, v1, v2, v3, v4, v5⟩ := (HT.out.below hb7').cells
          have hU : segU a b c d tag es k ++ iU a b c d ss (m + 1) = segU a b c d tag es k ++ iU a b c d ss m ++ [mB y] ++ (strOfNums (esc a b c d (upto t d t.size))).data.toList := by
            simp only [iU, HM.out.1, Option.getD_some, ← HM.out.2, escB, List.append_assoc, List.cons_append, List.nil_append]
          rw [← hU] at hB7
          have HR : Hid (Lib.BuilderAt 105 5 w2.heap.size w2.heap.size (.pointer (some ⟨w2.heap.size, 0, none⟩)) (Lib.byteCells (segU a b c d tag es k ++ iU a b c d ss (m + 1))) w7 ∧ Below w2.heap.size w2 w7) := ⟨hB7, hb7'⟩
          clear hU hB7 hb7' hb7 hB6 hb6' z0 z1 z2 z3 z4 z5
          go_wp2
          go_roundw
          case rel => exact ⟨m + 1, c, rfl, by go_num, by omega, by rw [if_neg (by omega)], HR.out.1, HR.out.2⟩
          case measure => simp [intOf]; omega
        · obtain rfl : m = ss.length := by omega
          have HM : Hid (Lib.BuilderAt 105 5 w2.heap.size w2.heap.size (.pointer (some ⟨w2.heap.size, 0, none⟩)) (Lib.byteCells (segU a b c d tag es (k + 1))) wr ∧ Below w2.heap.size w2 wr) := ⟨by rw [show segU a b c d tag es (k + 1) = segU a b c d tag es k ++ iU a b c d ss ss.length by simp only [segU, HS.out.1, Option.getD_some]]; exact hBm, hbm⟩
          clear hBm hbm
          go_wp2
          go_roundw
          case rel => exact ⟨k + 1, by go_num, by omega, HM.out.1, HM.out.2⟩
          case measure => simp [intOf]; omega
    · obtain rfl : k = es.length := by omega
      obtain ⟨v0, v1, v2, v3, v4, v5⟩ := (HT.out.below hb).cells
      have hwo : w2.heap.size ≤ wo.heap.size := hb.size
      have hlt' : ¬ (es.length : Int) < (es.length : Int) := by omega
      clear hlt
      go_wp2_with fail
      refine (writeByte_any w2.heap.size w2.heap.size _ _ _ (.inr hB) (by rw [byteCells_len]; omega) hwo).mono ?_
      rintro e w5 ⟨rfl, hB5, hb5⟩
      rw [← byteCells_mark, ← byteCells_app] at hB5
      have hb5' : Below w2.heap.size w2 w5 := hb.trans hb5
      clear hB hb hb5
      go_wp2_with fail
      refine (string_any w2.heap.size w2.heap.size _ _ (.inr hB5) hb5'.size).mono ?_
      rintro e w6 ⟨rfl, hb6⟩
      have HB : Hid (Below w.heap.size w w6) := HT.out.bel.trans ((hb5'.trans hb6).mono HT.out.bel.size)
      clear hB5 hb5' hb6
      go_wp2
      go_ret
      exact ⟨ret_str (textG_yes hr hg).symm, HB.out⟩
end Go.Proofs.YtkaolpnbddjdpaaGreatDoor
namespace Go.Proofs.YtkaolpnbddjdpaaGreatDoor
open Go.Shelf Go.RowKit
def renL : Go.Shelf.Ren := ⟨fun | 170 => 69 | n => n, fun | 0 => 0 | 3 => 3 | 37 => 22 | 70 => 103 | 72 => 105 | 5 => 5 | n => n, fun | n => n⟩
theorem laysLen : Go.Proofs.Lays.n170 Tryz.prog renL := {
  mixed := by kernel_rfl
  f170 := Tryz.func69.trans (congrArg some (by kernel_rfl))
  t0 := Tryz.underlying0
  a0 := Tryz.isAgg0
  z0 := Tryz.sizeOf0
  v0 := Tryz.zeroValue0
  t3 := Tryz.underlying3
  a3 := Tryz.isAgg3
  z3 := Tryz.sizeOf3
  v3 := Tryz.zeroValue3
  t37 := Tryz.underlying22
  a37 := Tryz.isAgg22
  z37 := Tryz.sizeOf22
  v37 := Tryz.zeroValue22
  t70 := Tryz.underlying103
  a70 := Tryz.isAgg103
  z70 := Tryz.sizeOf103
  v70 := Tryz.zeroValue103
  t72 := Tryz.underlying105
  a72 := Tryz.isAgg105
  z72 := Tryz.sizeOf105
  v72 := Tryz.zeroValue105 }
theorem len_any (B b : Nat) (bs : List Value) (w : World) (h : Lib.IsBuilder 105 5 B b bs w) :
    Calls Tryz.prog 69 #[.pointer (some ⟨b, 0, none⟩)] w fun e w' => e = .returned (.int .i64 bs.length) ∧ w' = w := Any.Builder_Len laysLen B b bs w h
end Go.Proofs.YtkaolpnbddjdpaaGreatDoor
namespace Go.Proofs.YtkaolpnbddjdpaaGreatDoor
open Go.ChangeShapes Go.WideShapes Go.ChangeAt Go.RowKit
/-- The texts of the first k. -/
def catU (a b c d : Int) (gs : List Seg) : Nat → List UInt8
  | 0 => []
  | k + 1 => catU a b c d gs k ++ (textG a b c d (gs[k]?.getD (⟨#[]⟩, [])).1 (gs[k]?.getD (⟨#[]⟩, [])).2).data.toList
def okGs (a b c d : Int) (gs : List Seg) : Prop := rightB a b c d = true ∧ gs.length ≤ 200 ∧ (∀ (i : Nat) (g : Seg), gs[i]? = some g → rightG g.1 g.2 = true) ∧ (catU a b c d gs gs.length).length ≤ 20000
open Classical in
noncomputable def textsG (a b c d : Int) (gs : List Seg) : ByteArray := if okGs a b c d gs then ⟨(catU a b c d gs gs.length).toArray⟩ else ⟨#[]⟩
theorem textsG_no {a b c d : Int} {gs : List Seg} (h : ¬ okGs a b c d gs) : textsG a b c d gs = ⟨#[]⟩ := by
  unfold textsG
  rw [if_neg h]
theorem textsG_yes {a b c d : Int} {gs : List Seg} (h : okGs a b c d gs) : textsG a b c d gs = ⟨(catU a b c d gs gs.length).toArray⟩ := by
  unfold textsG
  rw [if_pos h]
theorem catU_mono (a b c d : Int) (gs : List Seg) (k : Nat) : ∀ n, k ≤ n → (catU a b c d gs k).length ≤ (catU a b c d gs n).length := by
  intro n
  induction n with
  | zero =>
    intro h
    have hk : k = 0 := by omega
    rw [hk]
    exact Nat.le_refl _
  | succ n ih =>
    intro h
    rcases Nat.lt_or_ge k (n + 1) with g | g
    · have := ih (by omega)
      simp only [catU, List.length_append]
      omega
    · have hk : k = n + 1 := by omega
      rw [hk]
      exact Nat.le_refl _
theorem isE_text (a b c d : Int) (tag : ByteArray) (es : List (List ByteArray)) : (textG a b c d tag es).toList.isEmpty = !(rightB a b c d && rightG tag es) := by
  have hl : ∀ x : ByteArray, x.toList = x.data.toList := fun x => by
    simpa using ByteArray.toList_eq x
  rw [hl]
  unfold textG
  split
  · rename_i h
    rw [h]
    simp [textU]
  · rename_i h
    simp only [Bool.not_eq_true] at h
    rw [h]
    rfl
theorem textG_size (a b c d : Int) (tag : ByteArray) (es : List (List ByteArray)) : (textG a b c d tag es).size ≤ 4000 := by
  unfold textG
  split
  · rename_i h
    simp only [Bool.and_eq_true] at h
    have h1 := segU_len (a := a) (b := b) (c := c) (d := d) h.2 _ (Nat.le_refl _)
    have h2 := (rightG_facts h.2).2.1
    have e : (⟨(textU a b c d tag es).toArray⟩ : ByteArray).size = (textU a b c d tag es).length := by simp [ByteArray.size]
    rw [e]
    unfold textU
    rw [List.length_append]
    simp
    omega
  · exact Nat.zero_le _
theorem isB_keep {T e B b : Nat} {bs : List Value} {W W' : World} (h : Lib.IsBuilder T e B b bs W) (hb : Below W.heap.size W W') : Lib.IsBuilder T e B b bs W' := by
  rcases h with h | h
  · exact .inl (builder_keep h hb)
  · exact .inr (builder_keep h hb)
set_option maxHeartbeats 2000000 in
theorem texts_impl (a b c d : Int) (v : Value) (gs : List Seg) (w : World) (h : RowG w v gs) (hG : BdG 1048576 gs) :
    Calls Tryz.prog 36 #[.agg #[.int .i64 a, .int .i64 b, .int .i64 c, .int .i64 d], v] w fun e w' => e = .returned (.string (textsG a b c d gs)) ∧ Below w.heap.size w w' := by
  obtain ⟨A, cap, rfl⟩ := h.val
  have hl := hG.1
  by_cases h200 : 200 < gs.length
  · have d0 : (200 : Int) < (gs.length : Int) := by omega
    clear h
    go_enter Tryz.func36, Tryz.ntmps36
    go_wp2
    go_ret
    exact ⟨ret_str (textsG_no fun h => by have := h.2.1; omega).symm, (Below.refl _ _).alloc (Nat.le_refl _) _⟩
  have d0 : ¬ (200 : Int) < (gs.length : Int) := by omega
  obtain ⟨W0, hW0⟩ : ∃ W0, W0 = w.alloc (.cells #[.int .i64 a, .int .i64 b, .int .i64 c, .int .i64 d] 24) := ⟨_, rfl⟩
  have hs0 : W0.heap.size = w.heap.size + 1 := by rw [hW0]; simp
  have hb0 : Below w.heap.size w W0 := by rw [hW0]; exact (Below.refl _ _).alloc (Nat.le_refl _) _
  have sx0 : W0.heap[w.heap.size]? = some (.cells #[.int .i64 a, .int .i64 b, .int .i64 c, .int .i64 d] 24) := by rw [hW0]; exact World.alloc_heap_new w _
  have hr0 : RowG W0 (.slice A gs.length cap) gs := by rw [hW0]; exact h.below ((Below.refl _ _).alloc (Nat.le_refl _) _)
  have H0 : Hid (Below w.heap.size w W0 ∧ W0.heap[w.heap.size]? = some (.cells #[.int .i64 a, .int .i64 b, .int .i64 c, .int .i64 d] 24) ∧ RowG W0 (.slice A gs.length cap) gs ∧ BdG 1048576 gs) := ⟨hb0, sx0, hr0, hG⟩
  clear hb0 sx0 hr0 hG h
  go_enter Tryz.func36, Tryz.ntmps36
  go_wp2_with fail
  rw [← hW0]
  go_loopw [14] (fun i wr => ∃ k : Nat, i = .int .i64 (k : Int) ∧ k ≤ gs.length ∧ (∀ (j : Nat) (g : Seg), j < k → gs[j]? = some g → rightG g.1 g.2 = true) ∧ (0 < k → rightB a b c d = true) ∧ (catU a b c d gs k).length ≤ 20000 ∧ Lib.IsBuilder 105 5 (w.heap.size + 1) (w.heap.size + 1) (Lib.byteCells (catU a b c d gs k)) wr ∧ Below W0.heap.size W0 wr) (fun i _ => gs.length - (intOf i).toNat)
  case atStart =>
    refine ⟨0, rfl, by omega, fun j g hj => by omega, fun h => by omega, by simp [catU], .inl ⟨Nat.le_refl _, .slice none 0 0, ?_, World.ownsRow_nil _ _ _ _, by simp [Value.ownBlock]⟩, (Below.refl _ _).alloc (Nat.le_refl _) _⟩
    rw [← hs0]
    exact World.alloc_heap_new W0 _
  case round =>
    obtain ⟨k, rfl, hk, hA, hRB, hlen, hB, hb⟩ := hrel
    by_cases hlt : k < gs.length
    · have hlt' : (k : Int) < (gs.length : Int) := by omega
      obtain ⟨b1, o1, c1, g, u, e, hs, hc, hd, hS, hsz⟩ := (H0.out.2.2.1.below hb).at hlt
      simp only [Value.slice.injEq, true_and] at e
      obtain ⟨rfl, rfl⟩ := e
      obtain ⟨a2, cap2, rfl⟩ := hS.val
      have hwr := hb.size
      have hbA : Below wr.heap.size wr (wr.alloc (.cells #[.string g.1, .slice a2 g.2.length cap2] 90)) := (Below.refl _ _).alloc (Nat.le_refl _) _
      have sx := (hb.block w.heap.size (by omega)).trans H0.out.2.1
      have sy := (hbA.block w.heap.size (by omega)).trans sx
      have x0 : (wr.alloc (.cells #[.string g.1, .slice a2 g.2.length cap2] 90)).cell? ⟨w.heap.size, 0, none⟩ = some (.int .i64 a) := by simp [World.cell?, sy]
      have x1 : (wr.alloc (.cells #[.string g.1, .slice a2 g.2.length cap2] 90)).cell? ⟨w.heap.size, 1, none⟩ = some (.int .i64 b) := by simp [World.cell?, sy]
      have x2 : (wr.alloc (.cells #[.string g.1, .slice a2 g.2.length cap2] 90)).cell? ⟨w.heap.size, 2, none⟩ = some (.int .i64 c) := by simp [World.cell?, sy]
      have x3 : (wr.alloc (.cells #[.string g.1, .slice a2 g.2.length cap2] 90)).cell? ⟨w.heap.size, 3, none⟩ = some (.int .i64 d) := by simp [World.cell?, sy]
      have HS : Hid (gs[k]? = some g ∧ RowE (wr.alloc (.cells #[.string g.1, .slice a2 g.2.length cap2] 90)) (.slice a2 g.2.length cap2) g.2 ∧ BdE 1048576 g.2) := ⟨hs, hS.below hbA, (H0.out.2.2.2.2 k g hs).2⟩
      have HB : Hid (Lib.IsBuilder 105 5 (w.heap.size + 1) (w.heap.size + 1) (Lib.byteCells (catU a b c d gs k)) wr ∧ Below W0.heap.size W0 wr ∧ (∀ (j : Nat) (g : Seg), j < k → gs[j]? = some g → rightG g.1 g.2 = true) ∧ (0 < k → rightB a b c d = true)) := ⟨hB, hb, hA, hRB⟩
      clear hs hS sx sy hB hb hA hRB
      go_wp2_with fail
      refine (text_seg_impl a b c d g.1 _ g.2 _ HS.out.2.1 HS.out.2.2).mono ?_
      rintro e w2 ⟨rfl, hb2⟩
      have hB2 := isB_keep (isB_keep HB.out.1 hbA) hb2
      have hb2' : Below W0.heap.size W0 w2 := (HB.out.2.1.alloc hwr _).trans (hb2.mono (by simp; omega))
      clear x0 x1 x2 x3 hbA hb2
      have hie := isE_text a b c d g.1 g.2
      have hcat : catU a b c d gs (k + 1) = catU a b c d gs k ++ (textG a b c d g.1 g.2).data.toList := by simp only [catU, HS.out.1, Option.getD_some]
      have hsl : (textG a b c d g.1 g.2).data.toList.length = (textG a b c d g.1 g.2).size := by simp
      cases hok : (rightB a b c d && rightG g.1 g.2)
      · rw [hok] at hie
        have hno : ¬ okGs a b c d gs := fun h => by
          rw [h.1, h.2.2.1 k g HS.out.1] at hok
          cases hok
        have HN : Hid (textsG a b c d gs = ⟨#[]⟩ ∧ Below w.heap.size w w2) := ⟨textsG_no hno, H0.out.1.trans (hb2'.mono (by omega))⟩
        clear hno hcat hok hsl hB2 hb2'
        go_wp2
        go_ret
        exact ⟨ret_str HN.out.1.symm, HN.out.2⟩
      · rw [hok] at hie
        simp only [Bool.and_eq_true] at hok
        have HK : Hid (catU a b c d gs (k + 1) = catU a b c d gs k ++ (textG a b c d g.1 g.2).data.toList ∧ rightB a b c d = true ∧ rightG g.1 g.2 = true ∧ (textG a b c d g.1 g.2).data.toList.length = (textG a b c d g.1 g.2).size) := ⟨hcat, hok.1, hok.2, hsl⟩
        clear hcat hok hsl
        go_wp2_with fail
        refine (len_any _ _ _ _ hB2).mono ?_
        rintro e w3 ⟨rfl, rfl⟩
        rw [byteCells_len]
        have hts := textG_size a b c d g.1 g.2
        by_cases hbig : 20000 < (catU a b c d gs k).length + (textG a b c d g.1 g.2).size
        · have hbig' : (20000 : Int) < ((catU a b c d gs k).length : Int) + ((textG a b c d g.1 g.2).size : Int) := by omega
          have hno : ¬ okGs a b c d gs := fun h => by
            have h1 := catU_mono a b c d gs (k + 1) gs.length hlt
            have h2 := h.2.2.2
            rw [HK.out.1, List.length_append, HK.out.2.2.2] at h1
            omega
          have HN : Hid (textsG a b c d gs = ⟨#[]⟩ ∧ Below w.heap.size w w3) := ⟨textsG_no hno, H0.out.1.trans (hb2'.mono (by omega))⟩
          clear hno hB2 hb2'
          go_wp2
          go_ret
          exact ⟨ret_str HN.out.1.symm, HN.out.2⟩
        · have hbig' : ¬ (20000 : Int) < ((catU a b c d gs k).length : Int) + ((textG a b c d g.1 g.2).size : Int) := by omega
          have hw3 := hb2'.size
          go_wp2_with fail
          refine (writeString_any _ _ _ _ _ hB2 (by rw [byteCells_len]; omega) (by omega)).mono ?_
          rintro e w4 ⟨rfl, hB4, hb4⟩
          rw [byteCells_str, ← byteCells_app, ← HK.out.1] at hB4
          rw [← hs0] at hb4
          have HR : Hid (Lib.IsBuilder 105 5 (w.heap.size + 1) (w.heap.size + 1) (Lib.byteCells (catU a b c d gs (k + 1))) w4 ∧ Below W0.heap.size W0 w4) := ⟨.inr hB4, hb2'.trans hb4⟩
          have hcl : (catU a b c d gs (k + 1)).length ≤ 20000 := by rw [HK.out.1, List.length_append, HK.out.2.2.2]; omega
          clear hB4 hb4 hB2 hb2'
          go_wp2
          go_roundw
          case rel =>
            refine ⟨k + 1, by go_num, by omega, fun j t hj ht => ?_, fun _ => HK.out.2.1, hcl, HR.out.1, HR.out.2⟩
            rcases Nat.lt_or_ge j k with q | q
            · exact HB.out.2.2.1 j t q ht
            · obtain rfl : j = k := by omega
              rw [HS.out.1] at ht
              cases ht
              exact HK.out.2.2.1
          case measure => simp [intOf]; omega
    · obtain rfl : k = gs.length := by omega
      have hlt' : ¬ (gs.length : Int) < (gs.length : Int) := by omega
      have hwr := hb.size
      have HA : Hid ((∀ (j : Nat) (g : Seg), j < gs.length → gs[j]? = some g → rightG g.1 g.2 = true) ∧ (0 < gs.length → rightB a b c d = true)) := ⟨hA, hRB⟩
      clear hA hRB hlt
      go_wp2_with fail
      refine (string_any _ _ _ _ hB (by omega)).mono ?_
      rintro e w2 ⟨rfl, hb2⟩
      rw [← hs0] at hb2
      have HN : Hid (Below w.heap.size w w2) := H0.out.1.trans ((hb.trans hb2).mono (by omega))
      clear hB hb hb2
      go_wp2
      go_ret
      refine ⟨ret_str ?_, HN.out⟩
      by_cases hz : gs.length = 0
      · have hg : gs = [] := List.length_eq_zero_iff.1 hz
        subst hg
        by_cases hok : okGs a b c d []
        · rw [textsG_yes hok]
        · rw [textsG_no hok]
          rfl
      · have hok : okGs a b c d gs := ⟨HA.out.2 (by omega), by omega, fun i g hi => HA.out.1 i g (List.getElem?_eq_some_iff.1 hi).1 hi, hlen⟩
        rw [textsG_yes hok]
end Go.Proofs.YtkaolpnbddjdpaaGreatDoor
namespace Go.Proofs.YtkaolpnbddjdpaaGreatDoor
open Go.ChangeShapes Go.WideShapes Go.ChangeAt Go.RowKit

theorem beq_flip (x y : Int) : (x == y) = (y == x) := by
  rw [Bool.eq_iff_iff, beq_iff_eq, beq_iff_eq]; exact ⟨Eq.symm, Eq.symm⟩
theorem rightB_eq (a b c d : Int) : rightB a b c d = (markB a && (markB b && !(a == b) && (markB c && (!(a == c) && !(b == c)) && (markB d && (!(a == d) && (!(b == d) && !(c == d))))))) := by
  unfold rightB hasB
  simp only [List.take, List.contains_cons, List.contains_nil, Bool.or_false, Bool.not_or, beq_flip a b, beq_flip a c, beq_flip a d, beq_flip b c, beq_flip b d, beq_flip c d]

set_option maxHeartbeats 4000000 in
theorem right_spec (a b c d : Int) (w : World) : Calls Tryz.prog 30 #[.agg #[.int .i64 a, .int .i64 b, .int .i64 c, .int .i64 d]] w fun e w' => e = .returned (.bool (rightB a b c d)) ∧ Below w.heap.size w w' := by
  go_enter Tryz.func30, Tryz.ntmps30
  go_wp2_with fail
  refine wp_loop_rounds 5 ?_
  rw [rounds_succ]
  go_wp2_with fail
  refine (l01Mark_any a _).mono ?_
  rintro e w' ⟨rfl, hw⟩
  subst hw
  go_wp2_with fail
  · (go_ret; exact ⟨ret_bool (by go_light; rw [rightB_eq]; simp_all), by repeat (first | exact ((Below.refl _ _).alloc (Nat.le_refl _) _).alloc (by simp) _ | refine below_drewN ?_ _)⟩)
  refine wp_loop_rounds 1 ?_
  rw [rounds_succ]
  go_wp2_with fail
  rw [rounds_succ]
  go_wp2_with fail
  refine (l01Mark_any b _).mono ?_
  rintro e w' ⟨rfl, hw⟩
  subst hw
  go_wp2_with fail
  · (go_ret; exact ⟨ret_bool (by go_light; rw [rightB_eq]; simp_all), by repeat (first | exact ((Below.refl _ _).alloc (Nat.le_refl _) _).alloc (by simp) _ | refine below_drewN ?_ _)⟩)
  refine wp_loop_rounds 2 ?_
  rw [rounds_succ]
  go_wp2_with fail
  go_quiet (fail)
  go_wp2_with fail
  · (go_ret; exact ⟨ret_bool (by go_light; rw [rightB_eq]; simp_all), by repeat (first | exact ((Below.refl _ _).alloc (Nat.le_refl _) _).alloc (by simp) _ | refine below_drewN ?_ _)⟩)
  rw [rounds_succ]
  go_wp2_with fail
  rw [rounds_succ]
  go_wp2_with fail
  refine (l01Mark_any c _).mono ?_
  rintro e w' ⟨rfl, hw⟩
  subst hw
  go_wp2_with fail
  · (go_ret; exact ⟨ret_bool (by go_light; rw [rightB_eq]; simp_all), by repeat (first | exact ((Below.refl _ _).alloc (Nat.le_refl _) _).alloc (by simp) _ | refine below_drewN ?_ _)⟩)
  refine wp_loop_rounds 3 ?_
  rw [rounds_succ]
  go_wp2_with fail
  go_quiet (fail)
  go_wp2_with fail
  · (go_ret; exact ⟨ret_bool (by go_light; rw [rightB_eq]; simp_all), by repeat (first | exact ((Below.refl _ _).alloc (Nat.le_refl _) _).alloc (by simp) _ | refine below_drewN ?_ _)⟩)
  rw [rounds_succ]
  go_wp2_with fail
  go_quiet (fail)
  go_wp2_with fail
  · (go_ret; exact ⟨ret_bool (by go_light; rw [rightB_eq]; simp_all), by repeat (first | exact ((Below.refl _ _).alloc (Nat.le_refl _) _).alloc (by simp) _ | refine below_drewN ?_ _)⟩)
  rw [rounds_succ]
  go_wp2_with fail
  rw [rounds_succ]
  go_wp2_with fail
  refine (l01Mark_any d _).mono ?_
  rintro e w' ⟨rfl, hw⟩
  subst hw
  go_wp2_with fail
  · (go_ret; exact ⟨ret_bool (by go_light; rw [rightB_eq]; simp_all), by repeat (first | exact ((Below.refl _ _).alloc (Nat.le_refl _) _).alloc (by simp) _ | refine below_drewN ?_ _)⟩)
  refine wp_loop_rounds 4 ?_
  rw [rounds_succ]
  go_wp2_with fail
  go_quiet (fail)
  go_wp2_with fail
  · (go_ret; exact ⟨ret_bool (by go_light; rw [rightB_eq]; simp_all), by repeat (first | exact ((Below.refl _ _).alloc (Nat.le_refl _) _).alloc (by simp) _ | refine below_drewN ?_ _)⟩)
  rw [rounds_succ]
  go_wp2_with fail
  go_quiet (fail)
  go_wp2_with fail
  · (go_ret; exact ⟨ret_bool (by go_light; rw [rightB_eq]; simp_all), by repeat (first | exact ((Below.refl _ _).alloc (Nat.le_refl _) _).alloc (by simp) _ | refine below_drewN ?_ _)⟩)
  rw [rounds_succ]
  go_wp2_with fail
  go_quiet (fail)
  go_wp2_with fail
  · (go_ret; exact ⟨ret_bool (by go_light; rw [rightB_eq]; simp_all), by repeat (first | exact ((Below.refl _ _).alloc (Nat.le_refl _) _).alloc (by simp) _ | refine below_drewN ?_ _)⟩)
  rw [rounds_succ]
  go_wp2_with fail
  rw [rounds_succ]
  go_wp2_with fail
  (go_ret; exact ⟨ret_bool (by go_light; rw [rightB_eq]; simp_all), by repeat (first | exact ((Below.refl _ _).alloc (Nat.le_refl _) _).alloc (by simp) _ | refine below_drewN ?_ _)⟩)
end Go.Proofs.YtkaolpnbddjdpaaGreatDoor
