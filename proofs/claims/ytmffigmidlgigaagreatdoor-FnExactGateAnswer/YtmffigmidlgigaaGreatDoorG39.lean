/- Texts of ours put together: AnP, PnI. -/
import Derived.Test.YtmffigmidlgigaaGreatDoorG33
import Derived.Test.YtmffigmidlgigaaGreatDoorG24
import Derived.Test.YtmffigmidlgigaaGreatDoorG34
import Derived.Test.YtmffigmidlgigaaGreatDoorG38
import Derived.Test.YtmffigmidlgigaaGreatDoorG30
namespace Go.Proofs.YtmffigmidlgigaaGreatDoor
open Go.ChangeShapes Go.WideShapes Go.ChangeAt Go.RowKit
/-- A paper without notes and without another's Ref. -/
structure PAn where
  kind : Int
  ref : ByteArray
  day : Int
  lines : List LinR
structure AnOk (g : Gat) (t : ByteArray) (n c l : Int) : Prop where
  g : gtB g = true
  t : nameB t = true
  n : ctlB n = true
  c0 : 0 ≤ c
  c1 : c ≤ 13
  l0 : 0 ≤ l
  l1 : l ≤ 1000000000
def noA : PAn := ⟨0, ⟨#[]⟩, 0, []⟩
def yesA (g : Gat) (n c l : Int) : PAn := ⟨7, (⟨#[65]⟩ : ByteArray) ++ decS n, g.day, [⟨c, ⟨#[]⟩, n, l, ⟨#[]⟩⟩]⟩
open Classical in
/-- What GateAnswer tells. -/
noncomputable def ansP (g : Gat) (t : ByteArray) (n c l : Int) : PAn := if AnOk g t n c l then yesA g n c l else noA
theorem ansP_yes {g : Gat} {t : ByteArray} {n c l : Int} (h : AnOk g t n c l) : ansP g t n c l = yesA g n c l := by simp [ansP, h]
theorem ansP_no {g : Gat} {t : ByteArray} {n c l : Int} (h : ¬ AnOk g t n c l) : ansP g t n c l = noA := by simp [ansP, h]
theorem ansP_len (g : Gat) (t : ByteArray) (n c l : Int) : (ansP g t n c l).lines.length ≤ 1 := by
  by_cases h : AnOk g t n c l
  · rw [ansP_yes h]; simp [yesA]
  · rw [ansP_no h]; simp [noA]
def blkA (d : Nat) (p : PAn) (k : Nat) : Prop := k = d ∧ p.lines ≠ []
theorem la_keep {d : Nat} {S : Nat → Prop} {W W' : World} {v : Value} {p : PAn} (h : LLi d W v p.lines) (hk : KeepP S W W') (hs : ∀ k, blkA d p k → ¬ S k) : LLi d W' v p.lines := h.of_block fun hn => hk.block d (h.lt hn) (hs d ⟨rfl, hn⟩)
theorem la_lt {d k : Nat} {W : World} {v : Value} {p : PAn} (h : LLi d W v p.lines) (hk : blkA d p k) : k < W.heap.size := by
  rw [hk.1]
  exact h.lt hk.2
def AnsA (w : World) (p : PAn) (e : Ending) (w' : World) : Prop := ∃ v d, e = .returned (.agg #[.int .i64 p.kind, .string p.ref, .string ⟨#[]⟩, .int .i64 p.day, .slice none 0 0, v]) ∧ w.heap.size ≤ d ∧ LLi d w' v p.lines ∧ Below w.heap.size w w'
def AnsAS (w : World) (p : PAn) (e : Ending) (w' : World) : Prop := ∃ v, e = .returned (.agg #[.int .i64 p.kind, .string p.ref, .string ⟨#[]⟩, .int .i64 p.day, .slice none 0 0, v]) ∧ RowLi w' v p.lines ∧ Below w.heap.size w w'
theorem bx6A {W : World} {b t : Nat} {x0 x1 x2 x3 x4 x5 : Value} (h : W.heap[b]? = some (.cells #[x0, x1, x2, x3, x4, x5] t)) : W.cell? ⟨b, 0, none⟩ = some x0 ∧ W.cell? ⟨b, 1, none⟩ = some x1 ∧ W.cell? ⟨b, 2, none⟩ = some x2 ∧ W.cell? ⟨b, 3, none⟩ = some x3 ∧ W.cell? ⟨b, 4, none⟩ = some x4 ∧ W.cell? ⟨b, 5, none⟩ = some x5 := by
  refine ⟨?_, ?_, ?_, ?_, ?_, ?_⟩ <;> simp [World.cell?, h]
def mkPa (k : Nat) (p : PAn) : PAn := ⟨p.kind, p.ref, p.day, mkLis k p.lines.length⟩
theorem one_lli {W : World} {d : Nat} {n c l : Int} (h : W.heap[d]? = some (.cells #[.int .i64 c, .string ⟨#[]⟩, .int .i64 n, .int .i64 l, .string ⟨#[]⟩] 64)) : LLi d W (.slice (some ⟨d, 0, none⟩) 1 1) [⟨c, ⟨#[]⟩, n, l, ⟨#[]⟩⟩] := by
  refine ⟨⟨_, _, rfl, fun _ => ⟨rfl, 5, fun i => #[Value.int .i64 c, .string ⟨#[]⟩, .int .i64 n, .int .i64 l, .string ⟨#[]⟩][i]?.getD undef, ⟨_, h, rfl, fun i hi => ?_⟩, by simp, fun i g hi => ?_⟩⟩, by simp, fun i g hi => ?_⟩
  · match i, hi with
    | 0, _ => rfl
    | 1, _ => rfl
    | 2, _ => rfl
    | 3, _ => rfl
    | 4, _ => rfl
  · match i, hi with
    | 0, hi => cases hi; exact ⟨rfl, rfl, rfl, rfl, rfl⟩
    | i + 1, hi => simp at hi
  · match i, hi with
    | 0, hi => cases hi; exact ⟨Nat.zero_le _, Nat.zero_le _⟩
    | i + 1, hi => simp at hi
theorem ansA_no {w w' : World} (h : Below w.heap.size w w') : AnsA w noA (.returned (.agg #[.int .i64 0, .string ⟨#[]⟩, .string ⟨#[]⟩, .int .i64 0, .slice none 0 0, .slice none 0 0])) w' := ⟨_, w.heap.size, rfl, Nat.le_refl _, LLi.nil _ _, h⟩
theorem ansAS_no {w w' : World} (h : Below w.heap.size w w') : AnsAS w noA (.returned (.agg #[.int .i64 0, .string ⟨#[]⟩, .string ⟨#[]⟩, .int .i64 0, .slice none 0 0, .slice none 0 0])) w' := ⟨_, rfl, RowLi.nil _, h⟩
theorem ansA_yes {w w' : World} {g : Gat} {n c l : Int} {d : Nat} (hd : w.heap.size ≤ d) (hO : w'.heap[d]? = some (.cells #[.int .i64 c, .string ⟨#[]⟩, .int .i64 n, .int .i64 l, .string ⟨#[]⟩] 64)) (h : Below w.heap.size w w') : AnsA w (yesA g n c l) (.returned (.agg #[.int .i64 7, .string ((⟨#[65]⟩ : ByteArray) ++ decS n), .string ⟨#[]⟩, .int .i64 g.day, .slice none 0 0, .slice (some ⟨d, 0, none⟩) 1 1])) w' := ⟨_, d, rfl, hd, one_lli hO, h⟩
theorem ansA_row {w w' : World} {p : PAn} {e : Ending} (h : AnsA w p e w') : AnsAS w p e w' := by
  obtain ⟨v, d, h1, _, h3, h4⟩ := h
  exact ⟨v, h1, h3.row, h4⟩
theorem st6A {W : World} {b t : Nat} {x0 x1 x2 x3 x4 x5 y0 y1 y2 y3 y4 y5 : Value} (h : W.heap[b]? = some (.cells #[x0, x1, x2, x3, x4, x5] t)) :
    ((((((W.setCell ⟨b, 0, none⟩ y0).setCell ⟨b, 1, none⟩ y1).setCell ⟨b, 2, none⟩ y2).setCell ⟨b, 3, none⟩ y3).setCell ⟨b, 4, none⟩ y4).setCell ⟨b, 5, none⟩ y5).heap[b]? = some (.cells #[y0, y1, y2, y3, y4, y5] t) := by
  simp [World.setCell, Array.getElem?_modify, h]
theorem st6B {W : World} {b q : Nat} {y0 y1 y2 y3 y4 y5 : Value} {o : Obj} (h : W.heap[q]? = some o) (hn : q ≠ b) :
    ((((((W.setCell ⟨b, 0, none⟩ y0).setCell ⟨b, 1, none⟩ y1).setCell ⟨b, 2, none⟩ y2).setCell ⟨b, 3, none⟩ y3).setCell ⟨b, 4, none⟩ y4).setCell ⟨b, 5, none⟩ y5).heap[q]? = some o := by
  rw [Below.heap_setCell _ _ _ _ hn, Below.heap_setCell _ _ _ _ hn, Below.heap_setCell _ _ _ _ hn, Below.heap_setCell _ _ _ _ hn, Below.heap_setCell _ _ _ _ hn, Below.heap_setCell _ _ _ _ hn]
  exact h
theorem an_boxA {X W : World} {o : Obj} (h : Below (X.alloc o).drew.heap.size (X.alloc o).drew W) : W.heap[X.heap.size]? = some o ∧ Below X.heap.size X W := by
  have h0 : Below X.heap.size X (X.alloc o).drew := ((Below.refl _ _).alloc (Nat.le_refl _) o).drew
  have e : (X.alloc o).drew.heap[X.heap.size]? = some o := World.alloc_heap_new X o
  exact ⟨(h.block _ (Array.getElem?_eq_some_iff.1 e).1).trans e, h0.trans (h.mono h0.size)⟩
theorem an_boxC {X W : World} {o : Obj} (h : Below (X.alloc o).heap.size (X.alloc o) W) : W.heap[X.heap.size]? = some o ∧ Below X.heap.size X W := by
  have h0 : Below X.heap.size X (X.alloc o) := (Below.refl _ _).alloc (Nat.le_refl _) o
  have e : (X.alloc o).heap[X.heap.size]? = some o := World.alloc_heap_new X o
  exact ⟨(h.block _ (Array.getElem?_eq_some_iff.1 e).1).trans e, h0.trans (h.mono h0.size)⟩
theorem an_boxB {X W : World} {o : Obj} (h : Below (X.drew.alloc o).heap.size (X.drew.alloc o) W) : W.heap[X.heap.size]? = some o ∧ Below X.heap.size X W := by
  obtain ⟨h1, h2⟩ := an_boxC h
  exact ⟨h1, (Below.refl _ _).drew.trans h2⟩
theorem st6C {w W : World} {b : Nat} {y0 y1 y2 y3 y4 y5 : Value} (h : Below w.heap.size w W) (hb : w.heap.size ≤ b) :
    Below w.heap.size w ((((((W.setCell ⟨b, 0, none⟩ y0).setCell ⟨b, 1, none⟩ y1).setCell ⟨b, 2, none⟩ y2).setCell ⟨b, 3, none⟩ y3).setCell ⟨b, 4, none⟩ y4).setCell ⟨b, 5, none⟩ y5) := (((((h.setCell hb _).setCell hb _).setCell hb _).setCell hb _).setCell hb _).setCell hb _
end Go.Proofs.YtmffigmidlgigaaGreatDoor
namespace Go.Proofs.YtmffigmidlgigaaGreatDoor
open Go.ChangeShapes Go.WideShapes Go.ChangeAt Go.RowKit
theorem isCode_any (n : Int) (w : World) : Calls Tryz.prog 30 #[.int .i64 n] w fun e w' => e = .returned (.bool (codeB n)) ∧ w' = w := by
  by_cases h1 : 0 ≤ n
  · by_cases h2 : n ≤ 13
    · go_enter Tryz.func30, Tryz.ntmps30
      go_wp2
      go_ret
      exact ⟨ret_bool (by simp [codeB, h1, h2]), rfl⟩
    · go_enter Tryz.func30, Tryz.ntmps30
      go_wp2
      go_ret
      exact ⟨ret_bool (by simp [codeB, h1, h2]), rfl⟩
  · go_enter Tryz.func30, Tryz.ntmps30
    go_wp2
    go_ret
    exact ⟨ret_bool (by simp [codeB]; omega), rfl⟩
set_option maxHeartbeats 4000000 in
theorem seenRight_any (low : Int) (v : Value) (rs : List Sn) (w : World) (h : RowSn w v rs) (hl : 1 ≤ low ∧ low ≤ 999999) : Calls Tryz.prog 105 #[.int .i64 low, v] w fun e w' => e = .returned (.bool (seenB low low rs)) ∧ Below w.heap.size w w' := by
  have hlen := h.len
  obtain ⟨A, C, rfl⟩ := h.val
  have HR : Hid (RowSn w (.slice A rs.length C) rs) := h
  clear h
  obtain ⟨hl1, hl2⟩ := hl
  go_enter Tryz.func105, Tryz.ntmps105
  go_wp2
  go_loopw [5, 11] (fun l i wr => ∃ (k : Nat) (z : Int), l = .int .i64 z ∧ i = .int .i64 (k : Int) ∧ k ≤ rs.length ∧ 1 ≤ z ∧ z ≤ 1000000 ∧ seenB low low rs = seenB low z (rs.drop k) ∧ Below w.heap.size w wr) (fun _ i _ => rs.length - (intOf i).toNat)
  case atStart => exact ⟨0, low, rfl, rfl, by omega, by omega, by omega, by simp, Below.refl _ _⟩
  case round =>
    obtain ⟨k, z, rfl, rfl, hk, hz1, hz2, hE, hb⟩ := hrel
    have HE : Hid (seenB low low rs = seenB low z (rs.drop k) ∧ Below w.heap.size w wr) := ⟨hE, hb⟩
    clear hE
    by_cases hlt : k < rs.length
    · have hlt' : (k : Int) < (rs.length : Int) := by omega
      obtain ⟨b, o, cap', g, e, hs, ⟨q0, q1, q2⟩⟩ := (HR.out.below hb).at hlt
      simp only [Value.slice.injEq, true_and] at e
      obtain ⟨rfl, rfl⟩ := e
      have HS : Hid (rs[k]? = some g) := hs
      clear hs hb
      obtain ⟨num, ans, cod⟩ := g
      dsimp only at q0 q1 q2
      have bA : Below w.heap.size w (wr.alloc (.cells #[.int .i64 num, .int .i64 ans, .int .i64 cod] 140)) := HE.out.2.alloc HE.out.2.size _
      by_cases c1 : num < z
      · go_wp2
        go_ret
        exact ⟨ret_bool (by rw [HE.out.1, seen_step HS.out]; simp [snB]; intro; omega), bA⟩
      by_cases c2 : low + 32 ≤ num
      · go_wp2
        go_ret
        exact ⟨ret_bool (by rw [HE.out.1, seen_step HS.out]; simp [snB]; intro; omega), bA⟩
      by_cases c3 : 999999 < num
      · go_wp2
        go_ret
        exact ⟨ret_bool (by rw [HE.out.1, seen_step HS.out]; simp [snB]; intro; omega), bA⟩
      have c1' : ¬ num < z := c1
      have c2' : num < low + 32 := by omega
      have HF : Hid (snB low z ⟨num, ans, cod⟩ = (ctlB ans && codeB cod)) := by
        have : z ≤ num := by omega
        have h3 : num ≤ 999999 := by omega
        simp [Hid, snB, this, c2', h3]
      go_wp2_with fail
      refine (isControl_any ans _).mono ?_
      rintro e w2 ⟨rfl, rfl⟩
      cases hc : ctlB ans
      · go_wp2
        go_ret
        exact ⟨ret_bool (by rw [HE.out.1, seen_step HS.out, HF.out, hc]; rfl), bA⟩
      · go_wp2_with fail
        refine (isCode_any cod _).mono ?_
        rintro e w3 ⟨rfl, rfl⟩
        cases hd : codeB cod
        · go_wp2
          go_ret
          exact ⟨ret_bool (by rw [HE.out.1, seen_step HS.out, HF.out, hc, hd]; rfl), bA⟩
        · go_wp2
          go_roundw
          case rel => exact ⟨k + 1, num + 1, by go_num, by go_num, by omega, by omega, by omega, by rw [HE.out.1, seen_step HS.out, HF.out, hc, hd]; rfl, bA⟩
          case measure => simp [intOf]; omega
    · obtain rfl : k = rs.length := by omega
      clear hb
      go_wp2
      go_ret
      exact ⟨ret_bool (by rw [HE.out.1, seen_end]), HE.out.2⟩
set_option maxHeartbeats 2000000 in
theorem ptRight_impl (p : Ptn) (v : Value) (w : World) (h : RPt w v p) : Calls Tryz.prog 92 #[.agg #[.string p.name, .int .i64 p.low, .int .i64 p.next, v]] w fun e w' => e = .returned (.bool (ptnB p)) ∧ Below w.heap.size w w' := by
  obtain ⟨name, low, next, rs⟩ := p
  have hlen := h.ls.len
  obtain ⟨A, C, rfl⟩ := h.ls.val
  dsimp only at h hlen ⊢
  have b0 : Below w.heap.size w (w.alloc (.cells #[.string name, .int .i64 low, .int .i64 next, .slice A rs.length C] 105)) := (Below.refl _ _).alloc (Nat.le_refl _) _
  have HR : Hid (RowSn (w.alloc (.cells #[.string name, .int .i64 low, .int .i64 next, .slice A rs.length C] 105)) (.slice A rs.length C) rs ∧ Below w.heap.size w (w.alloc (.cells #[.string name, .int .i64 low, .int .i64 next, .slice A rs.length C] 105))) := ⟨h.ls.below b0, b0⟩
  clear h b0
  go_enter Tryz.func92, Tryz.ntmps92
  go_wp2_with fail
  refine (isName_any name _).mono ?_
  rintro e w1 ⟨rfl, rfl⟩
  cases hn : nameB name
  · go_wp2
    go_ret
    exact ⟨ret_bool (by simp [ptnB, hn]), HR.out.2⟩
  go_wp2_with fail
  refine (isControl_any low _).mono ?_
  rintro e w1 ⟨rfl, rfl⟩
  cases hl : ctlB low
  · go_wp2
    go_ret
    exact ⟨ret_bool (by simp [ptnB, hl]), HR.out.2⟩
  go_wp2_with fail
  refine (isControl_any next _).mono ?_
  rintro e w1 ⟨rfl, rfl⟩
  cases hx : ctlB next
  · go_wp2
    go_ret
    exact ⟨ret_bool (by simp [ptnB, hx]), HR.out.2⟩
  go_wp2_with fail
  refine (seenRight_any low _ rs _ HR.out.1 (ctlB_iff.1 hl)).mono ?_
  rintro e w2 ⟨rfl, hb2⟩
  have HB : Hid (Below w.heap.size w w2) := HR.out.2.trans (hb2.mono (by simp))
  clear hb2
  go_wp2
  go_ret
  exact ⟨ret_bool (by simp [ptnB, hn, hl, hx]), HB.out⟩
end Go.Proofs.YtmffigmidlgigaaGreatDoor
