/- The text of a segment; contract of impl.SegmentText: at every four numbers and every segment that reads, as textG tells; nothing that was there is written. -/
import Derived.Test.YtbdjaohfnbnacaaShBuild
import Derived.Test.YtbdjaohfnbnacaaRightG
import Derived.Test.YtbdjaohfnbnacaaEsc
namespace Go.Proofs.Ytbdjaohfnbnacaa
open Go.ChangeShapes Go.WideShapes Go.ChangeAt Go.RowKit
/-- A mark's byte. -/
def mB (x : Int) : UInt8 := UInt8.ofNat (x % 256).toNat
theorem mB_num (x : Int) : ((mB x).toNat : Int) = x % 256 := by
  unfold mB
  simp
  omega
/-- The bytes of a text, escaped. -/
def escB (a b c d : Int) (s : ByteArray) : List UInt8 := (strOfNums (esc a b c d (upto s d s.size))).data.toList
theorem escB_len (a b c d : Int) (s : ByteArray) : (escB a b c d s).length ≤ 2 * s.size := by
  unfold escB
  rw [strOfNums_data, List.length_map]
  have := esc_len a b c d (upto s d s.size)
  rwa [upto_length] at this
/-- The first parts of an element, with what stands ahead of each. -/
def iU (a b c d : Int) (ss : List ByteArray) : Nat → List UInt8
  | 0 => []
  | k + 1 => iU a b c d ss k ++ ((if k = 0 then mB b else mB c) :: escB a b c d (ss[k]?.getD ⟨#[]⟩))
/-- The Tag and the first elements. -/
def segU (a b c d : Int) (tag : ByteArray) (es : List (List ByteArray)) : Nat → List UInt8
  | 0 => tag.data.toList
  | k + 1 => segU a b c d tag es k ++ iU a b c d (es[k]?.getD []) (es[k]?.getD []).length
def textU (a b c d : Int) (tag : ByteArray) (es : List (List ByteArray)) : List UInt8 := segU a b c d tag es es.length ++ [mB a]
def textG (a b c d : Int) (tag : ByteArray) (es : List (List ByteArray)) : ByteArray := if (rightB a b c d && rightG tag es) = true then ⟨(textU a b c d tag es).toArray⟩ else ⟨#[]⟩
theorem textG_no {a b c d : Int} {tag : ByteArray} {es : List (List ByteArray)} (h : rightB a b c d = false ∨ rightG tag es = false) : textG a b c d tag es = ⟨#[]⟩ := by
  unfold textG
  rcases h with h | h <;> rw [h] <;> simp
theorem textG_yes {a b c d : Int} {tag : ByteArray} {es : List (List ByteArray)} (h : rightB a b c d = true) (h' : rightG tag es = true) : textG a b c d tag es = ⟨(textU a b c d tag es).toArray⟩ := by
  unfold textG
  rw [h, h']
  rfl
/-- What is known of a right segment's sizes. -/
theorem partB_size {t : ByteArray} (h : partB t = true) : t.size ≤ 40 := by
  unfold partB at h
  simp only [Bool.and_eq_true, decide_eq_true_eq] at h
  exact h.1
theorem elB_facts {ss : List ByteArray} (h : elB ss = true) : 1 ≤ ss.length ∧ ss.length ≤ 4 ∧ ∀ (j : Nat) (t : ByteArray), ss[j]? = some t → partB t = true := by
  unfold elB at h
  simp only [Bool.and_eq_true, decide_eq_true_eq, List.all_eq_true] at h
  exact ⟨h.1, h.2.1, fun j t hj => h.2.2.2 t (List.mem_of_getElem? hj)⟩
theorem rightG_facts {tag : ByteArray} {es : List (List ByteArray)} (h : rightG tag es = true) : tag.size = 3 ∧ es.length ≤ 10 ∧ ∀ (j : Nat) (ss : List ByteArray), es[j]? = some ss → elB ss = true := by
  unfold rightG tagB at h
  simp only [Bool.and_eq_true, decide_eq_true_eq, List.all_eq_true] at h
  exact ⟨h.1.1, h.2.1, fun j t hj => h.2.2.2 t (List.mem_of_getElem? hj)⟩
theorem iU_len {a b c d : Int} {ss : List ByteArray} (h : ∀ (j : Nat) (t : ByteArray), ss[j]? = some t → partB t = true) : ∀ k, k ≤ ss.length → (iU a b c d ss k).length ≤ 81 * k := by
  intro k
  induction k with
  | zero => intro _; simp [iU]
  | succ k ih =>
    intro hk
    have h1 := ih (by omega)
    have hs : ss[k]? = some ss[k] := List.getElem?_eq_getElem (by omega)
    have h2 := partB_size (h k _ hs)
    have h3 := escB_len a b c d ss[k]
    simp only [iU, hs, Option.getD_some, List.length_append, List.length_cons]
    omega
theorem segU_len {a b c d : Int} {tag : ByteArray} {es : List (List ByteArray)} (h : rightG tag es = true) : ∀ k, k ≤ es.length → (segU a b c d tag es k).length ≤ 3 + 324 * k := by
  obtain ⟨h1, h2, h3⟩ := rightG_facts h
  intro k
  induction k with
  | zero => intro _; simp [segU]; omega
  | succ k ih =>
    intro hk
    have i1 := ih (by omega)
    have hs : es[k]? = some es[k] := List.getElem?_eq_getElem (by omega)
    obtain ⟨e1, e2, e3⟩ := elB_facts (h3 k _ hs)
    have i2 := iU_len (a := a) (b := b) (c := c) (d := d) e3 _ (Nat.le_refl _)
    simp only [segU, hs, Option.getD_some, List.length_append]
    omega
theorem builder_keep {T e B b : Nat} {p : Value} {bs : List Value} {W W' : World} (h : Lib.BuilderAt T e B b p bs W) (hb : Below W.heap.size W W') : Lib.BuilderAt T e B b p bs W' := by
  have hlt := h.lt
  obtain ⟨h1, v, h2, h3, h4⟩ := h
  have hg : W.grownBy W' none := ⟨hb.os, hb.tape, hb.output, hb.size, fun k hk _ => hb.block k hk⟩
  refine ⟨h1, v, (hb.block b hlt).trans h2, h3.kept hg ?_, h4⟩
  cases h1 : v.ownBlock
  · exact .inl rfl
  · exact .inr (by simp)
theorem byteCells_app (l m : List UInt8) : Lib.byteCells (l ++ m) = Lib.byteCells l ++ Lib.byteCells m := by simp [Lib.byteCells]
theorem byteCells_str (s : ByteArray) : Lib.strCells s = Lib.byteCells s.data.toList := rfl
theorem byteCells_len (l : List UInt8) : (Lib.byteCells l).length = l.length := by simp [Lib.byteCells]
theorem byteCells_mark (x : Int) : Lib.byteCells [mB x] = [.int .u8 (x % 256)] := by
  simp only [Lib.byteCells, List.map_cons, List.map_nil, mB_num]
/-- What stands while a segment is told: the syntax's block and the segment's block lie as they lay. -/
structure TS (w W : World) (a b c d : Int) (tag : ByteArray) (v : Value) (es : List (List ByteArray)) : Prop where
  bel : Below w.heap.size w W
  sx : W.heap[w.heap.size]? = some (.cells #[.int .i64 a, .int .i64 b, .int .i64 c, .int .i64 d] 24)
  gx : W.heap[w.heap.size + 1]? = some (.cells #[.string tag, v] 44)
  row : RowE W v es
theorem TS.below {w W W' : World} {a b c d : Int} {tag : ByteArray} {v : Value} {es : List (List ByteArray)} (h : TS w W a b c d tag v es) (hb : Below W.heap.size W W') : TS w W' a b c d tag v es :=
  ⟨h.bel.trans (hb.mono h.bel.size), (hb.block _ (Array.getElem?_eq_some_iff.1 h.sx).1).trans h.sx, (hb.block _ (Array.getElem?_eq_some_iff.1 h.gx).1).trans h.gx, h.row.below hb⟩
theorem TS.begun {w : World} (a b c d : Int) (tag : ByteArray) {v : Value} {es : List (List ByteArray)} (h : RowE w v es) : TS w ((w.alloc (.cells #[.int .i64 a, .int .i64 b, .int .i64 c, .int .i64 d] 24)).alloc (.cells #[.string tag, v] 44)) a b c d tag v es :=
  ⟨((Below.refl _ _).alloc (Nat.le_refl _) _).alloc (by simp) _, (Below.heap_alloc _ _ _ (by simp)).trans (World.alloc_heap_new w _), heap_new2 w _ _, h.below (((Below.refl _ _).alloc (Nat.le_refl _) _).alloc (by simp) _)⟩
theorem TS.cells {w W : World} {a b c d : Int} {tag : ByteArray} {v : Value} {es : List (List ByteArray)} (h : TS w W a b c d tag v es) :
    W.cell? ⟨w.heap.size, 0, none⟩ = some (.int .i64 a) ∧ W.cell? ⟨w.heap.size, 1, none⟩ = some (.int .i64 b) ∧ W.cell? ⟨w.heap.size, 2, none⟩ = some (.int .i64 c) ∧ W.cell? ⟨w.heap.size, 3, none⟩ = some (.int .i64 d) ∧ W.cell? ⟨w.heap.size + 1, 0, none⟩ = some (.string tag) ∧ W.cell? ⟨w.heap.size + 1, 1, none⟩ = some v := by
  have h1 := h.sx
  have h2 := h.gx
  exact ⟨by simp [World.cell?, h1], by simp [World.cell?, h1], by simp [World.cell?, h1], by simp [World.cell?, h1], by simp [World.cell?, h2], by simp [World.cell?, h2]⟩
theorem TS.lt {w W : World} {a b c d : Int} {tag : ByteArray} {v : Value} {es : List (List ByteArray)} (h : TS w W a b c d tag v es) : w.heap.size + 1 < W.heap.size := (Array.getElem?_eq_some_iff.1 h.gx).1
set_option maxHeartbeats 2000000 in
theorem text_seg_impl (a b c d : Int) (tag : ByteArray) (v : Value) (es : List (List ByteArray)) (w : World) (h : RowE w v es) (hE : BdE 1048576 es) :
    Calls Try.prog 17 #[.agg #[.int .i64 a, .int .i64 b, .int .i64 c, .int .i64 d], .agg #[.string tag, v]] w fun e w' => e = .returned (.string (textG a b c d tag es)) ∧ Below w.heap.size w w' := by
  obtain ⟨A, cap, rfl⟩ := h.val
  have hl := hE.1
  have hT := TS.begun a b c d tag h
  clear h
  have HE : Hid (BdE 1048576 es) := hE
  clear hE
  go_enter Try.func17, Try.ntmps17
  go_wp2_with fail
  refine (right_impl a b c d _).mono ?_
  rintro e w1 ⟨rfl, hb1⟩
  have hT1 := hT.below hb1
  clear hb1 hT
  cases hr : rightB a b c d
  · have HB : Hid (Below w.heap.size w w1) := hT1.bel
    clear hT1
    go_wp2
    go_ret
    exact ⟨ret_str (textG_no (.inl hr)).symm, HB.out⟩
  obtain ⟨x0, x1, x2, x3, x4, x5⟩ := hT1.cells
  go_wp2_with fail
  refine (right_seg_impl tag _ es _ hT1.row HE.out).mono ?_
  rintro e w2 ⟨rfl, hb2⟩
  have hT2 := hT1.below hb2
  clear hb2 hT1 x0 x1 x2 x3 x4 x5
  cases hg : rightG tag es
  · have HB : Hid (Below w.heap.size w w2) := hT2.bel
    clear hT2
    go_wp2
    go_ret
    exact ⟨ret_str (textG_no (.inr hg)).symm, HB.out⟩
  obtain ⟨x0, x1, x2, x3, x4, x5⟩ := hT2.cells
  have hlt2 := hT2.lt
  have n1 : w.heap.size ≠ w2.heap.size := by omega
  have n2 : w.heap.size + 1 ≠ w2.heap.size := by omega
  have q1 := segU_len (a := a) (b := b) (c := c) (d := d) hg
  obtain ⟨r1, r2, r3⟩ := rightG_facts hg
  have HQ : Hid ((∀ k, k ≤ es.length → (segU a b c d tag es k).length ≤ 3 + 324 * k) ∧ (∀ (j : Nat) (ss : List ByteArray), es[j]? = some ss → elB ss = true)) := ⟨q1, r3⟩
  clear q1 r3
  have HT : Hid (TS w w2 a b c d tag (.slice A es.length cap) es) := hT2
  clear hT2
  go_wp2_with fail
  have hI : Lib.IsBuilder 48 5 w2.heap.size w2.heap.size [] (w2.alloc (.cells #[.pointer none, .slice none 0 0] 48)) := .inl ⟨Nat.le_refl _, .slice none 0 0, World.alloc_heap_new w2 _, World.ownsRow_nil _ _ _ _, by simp [Value.ownBlock]⟩
  refine (writeString_any w2.heap.size w2.heap.size [] tag _ hI (by simp; omega) (by simp)).mono ?_
  rintro e w3 ⟨rfl, hB3, hb3⟩
  rw [List.nil_append, byteCells_str] at hB3
  have hb3' : Below w2.heap.size w2 w3 := ((Below.refl _ _).alloc (Nat.le_refl _) _).trans hb3
  obtain ⟨x0, x1, x2, x3, x4, x5⟩ := (HT.out.below hb3').cells
  have H3 : Hid (Lib.BuilderAt 48 5 w2.heap.size w2.heap.size (.pointer (some ⟨w2.heap.size, 0, none⟩)) (Lib.byteCells (segU a b c d tag es 0)) w3 ∧ Below w2.heap.size w2 w3) := ⟨hB3, hb3'⟩
  clear hI hB3 hb3 hb3'
  go_wp2_with fail
  go_loopw [25] (fun i wr => ∃ k : Nat, i = .int .i64 (k : Int) ∧ k ≤ es.length ∧ Lib.BuilderAt 48 5 w2.heap.size w2.heap.size (.pointer (some ⟨w2.heap.size, 0, none⟩)) (Lib.byteCells (segU a b c d tag es k)) wr ∧ Below w2.heap.size w2 wr) (fun i _ => es.length - (intOf i).toNat)
  case atStart => exact ⟨0, rfl, by omega, H3.out.1, H3.out.2⟩
  case round =>
    obtain ⟨k, rfl, hk, hB, hb⟩ := hrel
    rename World => wo
    have q1 := HQ.out.1 k hk
    by_cases hlt : k < es.length
    · have hlt' : (k : Int) < (es.length : Int) := by omega
      obtain ⟨b1, o1, c1, ss, u, e, hs, hc, hS⟩ := HT.out.row.at hlt
      have hcw : wo.cell? ⟨b1, o1 + k, none⟩ = some u := (hb.cell (p := ⟨b1, o1 + k, none⟩) (cell_lt hc)).trans hc
      simp only [Value.slice.injEq, true_and] at e
      obtain ⟨rfl, rfl⟩ := e
      obtain ⟨a2, cap2, rfl⟩ := hS.val
      obtain ⟨p1, p2, p3⟩ := elB_facts (HQ.out.2 k ss hs)
      have q2 := iU_len (a := a) (b := b) (c := c) (d := d) p3
      obtain ⟨x0, x1, x2, x3, x4, x5⟩ := (HT.out.below hb).cells
      have hwr : w2.heap.size ≤ wo.heap.size := hb.size
      have m1 : w.heap.size ≠ wo.heap.size := by omega
      obtain ⟨y0, y1, y2, y3, y4, y5⟩ := ((HT.out.below hb).below ((Below.refl _ _).alloc (Nat.le_refl _) (.cells #[.slice a2 ss.length cap2] 74))).cells
      have HS : Hid (es[k]? = some ss ∧ RowS w2 (.slice a2 ss.length cap2) ss ∧ (∀ (j : Nat) (t : ByteArray), ss[j]? = some t → partB t = true) ∧ (∀ m, m ≤ ss.length → (iU a b c d ss m).length ≤ 81 * m)) := ⟨hs, hS, p3, q2⟩
      have HB : Hid (Lib.BuilderAt 48 5 w2.heap.size w2.heap.size (.pointer (some ⟨w2.heap.size, 0, none⟩)) (Lib.byteCells (segU a b c d tag es k)) wo ∧ Below w2.heap.size w2 wo) := ⟨hB, hb⟩
      clear hs hS p3 q2 hB hb
      go_wp2_with fail
      go_loopw [8, 34] (fun mk i wi => ∃ (m : Nat) (y : Int), mk = .int .i64 y ∧ i = .int .i64 (m : Int) ∧ m ≤ ss.length ∧ mB y = (if m = 0 then mB b else mB c) ∧ Lib.BuilderAt 48 5 w2.heap.size w2.heap.size (.pointer (some ⟨w2.heap.size, 0, none⟩)) (Lib.byteCells (segU a b c d tag es k ++ iU a b c d ss m)) wi ∧ Below w2.heap.size w2 wi) (fun _ i _ => ss.length - (intOf i).toNat)
      case atStart =>
        refine ⟨0, b, rfl, rfl, by omega, rfl, ?_, HB.out.2.alloc hwr _⟩
        have := builder_keep HB.out.1 ((Below.refl _ _).alloc (Nat.le_refl _) (.cells #[.slice a2 ss.length cap2] 74))
        simpa [iU] using this
      case round =>
        obtain ⟨m, y, rfl, rfl, hm, hy, hBm, hbm⟩ := hrel
        have q3 := HS.out.2.2.2 m hm
        by_cases hml : m < ss.length
        · have hml' : (m : Int) < (ss.length : Int) := by omega
          obtain ⟨b3, o3, c3, t, e3, ht, hc3, hsz⟩ := (HS.out.2.1.below hbm).at hml
          simp only [Value.slice.injEq, true_and] at e3
          obtain ⟨rfl, rfl⟩ := e3
          have htl := partB_size (HS.out.2.2.1 m t ht)
          obtain ⟨z0, z1, z2, z3, z4, z5⟩ := (HT.out.below hbm).cells
          have hwi : w2.heap.size ≤ wr.heap.size := hbm.size
          have HM : Hid (ss[m]? = some t ∧ mB y = (if m = 0 then mB b else mB c)) := ⟨ht, hy⟩
          clear ht hy
          go_wp2_with fail
          refine (writeByte_any w2.heap.size w2.heap.size _ _ _ (.inr hBm) (by rw [byteCells_len, List.length_append]; omega) hwi).mono ?_
          rintro e w5 ⟨rfl, hB5, hb5⟩
          rw [← byteCells_mark, ← byteCells_app] at hB5
          have hb5' : Below w2.heap.size w2 w5 := hbm.trans hb5
          have hw5 : w2.heap.size ≤ w5.heap.size := hb5'.size
          obtain ⟨z0, z1, z2, z3, z4, z5⟩ := (HT.out.below hb5').cells
          clear hBm hbm hb5
          go_wp2_with fail
          refine (escape_right a b c d t _ hr (by omega)).mono ?_
          rintro e w6 ⟨rfl, hb6⟩
          have hB6 := builder_keep hB5 hb6
          have hb6' : Below w2.heap.size w2 w6 := hb5'.trans (hb6.mono hw5)
          have hw6 : w2.heap.size ≤ w6.heap.size := hb6'.size
          have hsz6 : (strOfNums (esc a b c d (upto t d t.size))).size ≤ 80 := by
            have := escB_len a b c d t
            unfold escB at this
            have e6 : (strOfNums (esc a b c d (upto t d t.size))).data.toList.length = (strOfNums (esc a b c d (upto t d t.size))).size := by simp
            omega
          clear hb6 hB5 hb5'
          go_wp2_with fail
          refine (writeString_any w2.heap.size w2.heap.size _ _ _ (.inr hB6) (by rw [byteCells_len, List.length_append, List.length_append]; simp; omega) hw6).mono ?_
          rintro e w7 ⟨rfl, hB7, hb7⟩
          rw [byteCells_str, ← byteCells_app] at hB7
          have hb7' : Below w2.heap.size w2 w7 := hb6'.trans hb7
          obtain ⟨v0, v1, v2, v3, v4, v5⟩ := (HT.out.below hb7').cells
          have hU : segU a b c d tag es k ++ iU a b c d ss (m + 1) = segU a b c d tag es k ++ iU a b c d ss m ++ [mB y] ++ (strOfNums (esc a b c d (upto t d t.size))).data.toList := by
            simp only [iU, HM.out.1, Option.getD_some, ← HM.out.2, escB, List.append_assoc, List.cons_append, List.nil_append]
          rw [← hU] at hB7
          have HR : Hid (Lib.BuilderAt 48 5 w2.heap.size w2.heap.size (.pointer (some ⟨w2.heap.size, 0, none⟩)) (Lib.byteCells (segU a b c d tag es k ++ iU a b c d ss (m + 1))) w7 ∧ Below w2.heap.size w2 w7) := ⟨hB7, hb7'⟩
          clear hU hB7 hb7' hb7 hB6 hb6' z0 z1 z2 z3 z4 z5
          go_wp2
          go_roundw
          case rel => exact ⟨m + 1, c, rfl, by go_num, by omega, by rw [if_neg (by omega)], HR.out.1, HR.out.2⟩
          case measure => simp [intOf]; omega
        · obtain rfl : m = ss.length := by omega
          have HM : Hid (Lib.BuilderAt 48 5 w2.heap.size w2.heap.size (.pointer (some ⟨w2.heap.size, 0, none⟩)) (Lib.byteCells (segU a b c d tag es (k + 1))) wr ∧ Below w2.heap.size w2 wr) := ⟨by rw [show segU a b c d tag es (k + 1) = segU a b c d tag es k ++ iU a b c d ss ss.length by simp only [segU, HS.out.1, Option.getD_some]]; exact hBm, hbm⟩
          clear hBm hbm
          go_wp2
          go_roundw
          case rel => exact ⟨k + 1, by go_num, by omega, HM.out.1, HM.out.2⟩
          case measure => simp [intOf]; omega
    · obtain rfl : k = es.length := by omega
      obtain ⟨v0, v1, v2, v3, v4, v5⟩ := (HT.out.below hb).cells
      have hwo : w2.heap.size ≤ wo.heap.size := hb.size
      have hlt' : ¬ (es.length : Int) < (es.length : Int) := by omega
      clear hlt
      go_wp2_with fail
      refine (writeByte_any w2.heap.size w2.heap.size _ _ _ (.inr hB) (by rw [byteCells_len]; omega) hwo).mono ?_
      rintro e w5 ⟨rfl, hB5, hb5⟩
      rw [← byteCells_mark, ← byteCells_app] at hB5
      have hb5' : Below w2.heap.size w2 w5 := hb.trans hb5
      clear hB hb hb5
      go_wp2_with fail
      refine (string_any w2.heap.size w2.heap.size _ _ (.inr hB5) hb5'.size).mono ?_
      rintro e w6 ⟨rfl, hb6⟩
      have HB : Hid (Below w.heap.size w w6) := HT.out.bel.trans ((hb5'.trans hb6).mono HT.out.bel.size)
      clear hB5 hb5' hb6
      go_wp2
      go_ret
      exact ⟨ret_str (textG_yes hr hg).symm, HB.out⟩
end Go.Proofs.Ytbdjaohfnbnacaa
