/- FnOutbox returns true at every text and leaves it as it was: a drawn thing put into an outbox is there till it is heard, and then the outbox is as it was; no condition. -/
import Derived.Test.YtiakkpglnijapaaOuDp
import Derived.Test.YtiakkpglnijapaaOuPi
import Derived.Test.YtiakkpglnijapaaOuPs
import Derived.Test.YtiakkpglnijapaaOuHi
import Derived.Test.YtiakkpglnijapaaOuR
import Derived.Test.YtiakkpglnijapaaOxP
import Derived.Test.YtiakkpglnijapaaAppWOu
import Derived.Test.YtiakkpglnijapaaLwO
import Derived.Laws.StructEq
import Derived.Deep.RegionHeld3
import Derived.Deep.RegionLaw
import Derived.Deep.Cut
import Derived.Deep.CutRange
import Derived.Deep.DeepMust
namespace Go.Proofs.Ytiakkpglnijapaa
open Go.ChangeShapes Go.WideShapes Go.ChangeAt Go.RowKit
set_option linter.unusedVariables false
namespace fnOutbox
def IsRow (k : IntKind) (w : World) (a : Option Addr) (len cap : Nat) (zs : List Int) : Prop :=
  (a = none ∧ len = 0 ∧ cap = 0 ∧ zs = []) ∨
  ∃ x, a = some x ∧ len ≤ cap ∧ cap ≤ maxLen ∧ zs.length = cap ∧ (∀ i, i < zs.length → w.cell? (x.add i) = some (.int k (zs.getD i 0))) ∧ ∀ n ∈ zs, (Lit.int k n).wf = true
theorem IsRow.bytesAt {w : World} {a : Option Addr} {len cap : Nat} {zs : List Int} (h : IsRow .u8 w a len cap zs) : BytesAt w a len zs := by
  intro g
  rcases h with ⟨_, rfl, _, _⟩ | ⟨x, rfl, hl, _, hz, hc, _⟩
  · omega
  · obtain ⟨b, off, spot⟩ := x
    have h0 := hc 0 (by omega)
    have hspot : spot = none := by simpa [Addr.add] using World.cell?_spot h0
    subst hspot
    refine ⟨b, off, rfl, fun i hi => ?_⟩
    have hplain : (⟨b, off, none⟩ : Addr).add i = ⟨b, off + i, none⟩ := by unfold Addr.add; split <;> simp_all
    have := hc i (by omega)
    rw [hplain] at this
    simpa [List.getD] using this
theorem IsRow.len_le {w : World} {a : Option Addr} {len cap : Nat} {zs : List Int} (h : IsRow .u8 w a len cap zs) : len ≤ 9223372036854775807 := by
  rcases h with ⟨_, rfl, _, _⟩ | ⟨x, rfl, hl, hm, hz, hc, _⟩
  · omega
  · unfold maxLen at hm
    omega
theorem und {a b : World} (h : Below a.drew.heap.size a.drew b) : Below a.heap.size a b := (Below.refl _ _).drew.trans h
theorem bxC {X W : World} {o : Obj} (h : Below (X.alloc o).heap.size (X.alloc o) W) : W.heap[X.heap.size]? = some o ∧ Below X.heap.size X W := by
  have h0 : Below X.heap.size X (X.alloc o) := (Below.refl _ _).alloc (Nat.le_refl _) o
  have e : (X.alloc o).heap[X.heap.size]? = some o := World.alloc_heap_new X o
  exact ⟨(h.block _ (Array.getElem?_eq_some_iff.1 e).1).trans e, h0.trans (h.mono h0.size)⟩
theorem two_heap (w : World) (a b : Obj) : ((w.alloc a).alloc b).heap[w.heap.size]? = some a ∧ ((w.alloc a).alloc b).heap[w.heap.size + 1]? = some b := by
  have e : ((w.alloc a).alloc b).heap = (w.heap.push a).push b := rfl
  rw [e]
  simp only [Array.getElem?_push, Array.size_push]
  refine ⟨?_, ?_⟩
  · rw [if_neg (by omega), if_pos trivial]
  · rw [if_pos trivial]
theorem lou_set {b BX : Nat} {W W' : World} {v : Value} {rs : List OutR} {cs : Array Value} (h : LOu b W v rs) (hz : W.heap[BX]? = some (.cells cs 30)) (hk : ∀ q, q ≠ BX → W'.heap[q]? = W.heap[q]?) : LOu b W' v rs := h.of_block fun hn => hk b fun e => by
  obtain ⟨a, cap, e1, hc⟩ := h.shape
  obtain ⟨_, n, f, hR, _⟩ := hc hn
  obtain ⟨c, hc', _⟩ := hR
  rw [e, hz] at hc'
  simp only [Option.some.injEq, Obj.cells.injEq] at hc'
  exact absurd hc'.2.1 (by decide)
theorem set4_other {W : World} {BX : Nat} {y0 y1 y2 y3 : Value} (q : Nat) (hq : q ≠ BX) : ((((W.setCell ⟨BX, 0, none⟩ y0).setCell ⟨BX, 1, none⟩ y1).setCell ⟨BX, 2, none⟩ y2).setCell ⟨BX, 3, none⟩ y3).heap[q]? = W.heap[q]? := by
  rw [Below.heap_setCell _ _ _ _ hq, Below.heap_setCell _ _ _ _ hq, Below.heap_setCell _ _ _ _ hq, Below.heap_setCell _ _ _ _ hq]
theorem set4_below {B : Nat} {w W : World} {BX : Nat} {y0 y1 y2 y3 : Value} (h : Below B w W) (hb : B ≤ BX) : Below B w ((((W.setCell ⟨BX, 0, none⟩ y0).setCell ⟨BX, 1, none⟩ y1).setCell ⟨BX, 2, none⟩ y2).setCell ⟨BX, 3, none⟩ y3) := (((h.setCell hb _).setCell hb _).setCell hb _).setCell hb _
theorem frz {W : World} {b t : Nat} {cs : Array Value} (h : W.heap[b]? = some (.cells cs t)) : ∀ o, W.frozen? ⟨b, o, none⟩ = false := fun o => by simp [World.frozen?, h]
theorem fld3 (a b c : Option Addr) (n m k n' m' k' : Nat) (z : Int) (w : World) : (Instr.field 30 (.agg #[.slice a n n', .slice b m m', .slice c k k', .int .i64 z]) 3).run Try.prog w = .ok (.int .i64 z) w := by kernel_rfl
/-- The drawn thing in its box, the drawn list. -/
structure SO (P : Nat) (l : OutR) (lv : Value) (rs : List OutR) (w W : World) : Prop where
  bel : Below w.heap.size w W
  box : W.heap[P]? = some (.cells #[.string l.partner, .int .i64 l.number, .string l.text, .int .i64 l.tries, .int .i64 l.due] 25)
  row : RowOu W lv rs
theorem SO.below {P : Nat} {l : OutR} {lv : Value} {rs : List OutR} {w W W' : World} (h : SO P l lv rs w W) (hb : Below W.heap.size W W') : SO P l lv rs w W' := ⟨h.bel.trans (hb.mono h.bel.size), (hb.block _ (Array.getElem?_eq_some_iff.1 h.box).1).trans h.box, h.row.below hb⟩
theorem smZ {l : OutR} (h : SmO l) : l.partner.size ≤ 1048576 ∧ l.text.size ≤ 1048576 := by
  obtain ⟨h1, h2⟩ := h
  omega
set_option maxRecDepth 100000 in
set_option maxHeartbeats 16000000 in
theorem walk (a0 : Option Addr) (len0 cap0 : Nat) (z0 : List Int) (w : World) (w0 : IsRow .u8 w a0 len0 cap0 z0) :
    Calls Try.prog 3 #[.slice a0 len0 cap0] w fun e w' => e = .returned (.bool true) ∧ Below w.heap.size w w' := by
  have hl0 := w0.len_le
  have HR : Hid (BytesAt w a0 len0 z0) := w0.bytesAt
  clear w0
  by_cases hg : 1048576 < len0
  · have hg' : (1048576 : Int) < (len0 : Int) := by omega
    clear HR
    go_enter Try.func3, Try.ntmps3
    go_wp2
    go_ret
    exact ⟨rfl, Below.refl _ _⟩
  have hg' : (len0 : Int) ≤ 1048576 := by omega
  go_enter Try.func3, Try.ntmps3
  go_wp2_with fail
  refine (drawOutboxPut_any a0 len0 cap0 z0 _ (by omega) HR.out).mono ?_
  rintro e w1 ⟨ad, C, rs, l, rfl, hr, hsm, hlen, hsl, hb1⟩
  obtain ⟨W1, hW1⟩ : ∃ W1, w1.alloc (.cells #[.string l.partner, .int .i64 l.number, .string l.text, .int .i64 l.tries, .int .i64 l.due] 25) = W1 := ⟨_, rfl⟩
  have ha1 : Below w1.heap.size w1 W1 := by rw [← hW1]; exact (Below.refl _ _).alloc (Nat.le_refl _) _
  have hx1 : W1.heap[w1.heap.size]? = some (.cells #[.string l.partner, .int .i64 l.number, .string l.text, .int .i64 l.tries, .int .i64 l.due] 25) := by rw [← hW1]; exact World.alloc_heap_new _ _
  obtain ⟨P, hP⟩ : ∃ P, P = w1.heap.size := ⟨_, rfl⟩
  rw [← hP] at hx1
  have H1 : Hid (SO P l (.slice ad rs.length C) rs w W1) := ⟨hb1.trans (ha1.mono hb1.size), hx1, hr.below ha1⟩
  have HS : Hid ((∀ g ∈ rs, SmO g) ∧ SmO l) := ⟨hsm, hsl⟩
  have HW : Hid (w1.alloc (.cells #[.string l.partner, .int .i64 l.number, .string l.text, .int .i64 l.tries, .int .i64 l.due] 25) = W1 ∧ P = w1.heap.size) := ⟨hW1, hP⟩
  clear hr hsm hb1 HR hW1 hP ha1 hx1 hsl
  go_upto_region 4 with fail
  try rw [HW.out.1]
  try rw [← HW.out.2]
  clear HW
  obtain ⟨cd, L, hput, hPB⟩ : ∃ (cd : Int) (L : List OutR), ((putO rs l).code = cd ∧ (putO rs l).list = L) ∧ (cd = 0 → PutBack rs l L) := ⟨_, _, ⟨rfl, rfl⟩, fun h => by
    obtain ⟨L, hL⟩ := putBack_of h
    have := hL.put
    rw [this]
    exact hL⟩
  have hLl : L.length ≤ 70 := by
    have := putO_len rs l
    rw [hput.2] at this
    omega
  have QS : Hid (∀ W, RowOu W (.slice ad rs.length C) rs → Calls Try.prog 6 #[.slice ad rs.length C, .agg #[.string l.partner, .int .i64 l.number, .string l.text, .int .i64 l.tries, .int .i64 l.due]] W fun e w' => ∃ u, e = .returned (.agg #[u, .slice none 0 0, .slice none 0 0, .int .i64 cd]) ∧ RowOu w' u L ∧ Below W.heap.size W w') := fun W hW => by
    have := outboxPut_spec (.slice ad rs.length C) rs l W hW (by have := smZ HS.out.2; omega)
    rw [hput.1, hput.2] at this
    exact this
  have QI : Hid (∀ W (ad2 : Addr) C2, RowOu W (.slice (some ad2) rs.length C2) rs → Calls Try.prog 7 #[.slice (some ad2) rs.length C2, .agg #[.string l.partner, .int .i64 l.number, .string l.text, .int .i64 l.tries, .int .i64 l.due]] W fun e w' => ∃ u b, e = .returned (.agg #[u, .slice none 0 0, .slice none 0 0, .int .i64 cd]) ∧ W.heap.size ≤ b ∧ LOu b w' u L ∧ Below W.heap.size W w') := fun W ad2 C2 hW => by
    have := outboxPut_impl ad2 C2 rs l W hW (fun c hc => smZ (HS.out.1 c hc)) (smZ HS.out.2)
    rw [hput.1, hput.2] at this
    exact this
  have HPB : Hid (cd = 0 → PutBack rs l L) := hPB
  have HSL : Hid (∀ g ∈ L, SmO g) := fun g hg => by
    rw [← hput.2] at hg
    rcases putO_mem hg with rfl | hg
    · exact HS.out.2
    · exact HS.out.1 g hg
  clear hput hPB
  obtain ⟨c0, c1, c2, c3, c4⟩ := box5 H1.out.box
  go_wp2_with fail
  refine (QS.out _ H1.out.row).mono ?_
  rintro e w2 ⟨u2, rfl, hr2, hb2⟩
  obtain ⟨A2, C2, rfl⟩ := hr2.val
  obtain ⟨X, hX⟩ : ∃ X, w2.alloc (.cells #[.slice A2 L.length C2, .slice none 0 0, .slice none 0 0, .int .i64 cd] 30) = X := ⟨_, rfl⟩
  obtain ⟨BW, hBW⟩ : ∃ BW, BW = w2.heap.size := ⟨_, rfl⟩
  have haX : Below w2.heap.size w2 X := by rw [← hX]; exact (Below.refl _ _).alloc (Nat.le_refl _) _
  have hxX : X.heap[BW]? = some (.cells #[.slice A2 L.length C2, .slice none 0 0, .slice none 0 0, .int .i64 cd] 30) := by rw [← hX, hBW]; exact World.alloc_heap_new _ _
  have H2 : Hid (SO P l (.slice ad rs.length C) rs w X ∧ X.heap[BW]? = some (.cells #[.slice A2 L.length C2, .slice none 0 0, .slice none 0 0, .int .i64 cd] 30)) := ⟨(H1.out.below hb2).below haX, hxX⟩
  have HW2 : Hid (w2.alloc (.cells #[.slice A2 L.length C2, .slice none 0 0, .slice none 0 0, .int .i64 cd] 30) = X ∧ BW = w2.heap.size) := ⟨hX, hBW⟩
  clear hr2 hb2 H1 QS c0 c1 c2 c3 c4 hX hBW haX hxX
  go_upto_region 5 with fail
  try rw [HW2.out.1]
  try rw [← HW2.out.2]
  clear HW2
  obtain ⟨c0, c1, c2, c3, c4⟩ := box5 H2.out.1.box
  clear c0 c1 c2 c3 c4
  have HB : Hid (∀ W, Below X.heap.size X W → W.cell? ⟨P, 0, none⟩ = some (.string l.partner) ∧ W.cell? ⟨P, 1, none⟩ = some (.int .i64 l.number) ∧ W.cell? ⟨P, 2, none⟩ = some (.string l.text) ∧ W.cell? ⟨P, 3, none⟩ = some (.int .i64 l.tries) ∧ W.cell? ⟨P, 4, none⟩ = some (.int .i64 l.due)) := fun W hW => box5 (H2.out.1.below hW).box
  have g1 : Below X.heap.size X (X.alloc (.cells #[] 25)) := (Below.refl _ _).alloc (Nat.le_refl _) _
  have g2 : Below X.heap.size X ((X.alloc (.cells #[.slice none 0 0, .slice none 0 0, .slice none 0 0, .int .i64 0] 30)).alloc (.cells #[] 25)) := ((Below.refl _ _).alloc (Nat.le_refl _) _).alloc (by simp) _
  have g3 : Below X.heap.size X ((X.alloc (.cells #[] 25)).alloc (.cells #[.slice none 0 0, .slice none 0 0, .slice none 0 0, .int .i64 0] 30)) := ((Below.refl _ _).alloc (Nat.le_refl _) _).alloc (by simp) _
  have o1 : (X.alloc (.cells #[] 25)).ownsRow X.heap.size 25 5 (.slice (some ⟨X.heap.size, 0, none⟩) 0 0) 0 [] := own0Ou X (Nat.le_refl _)
  have o2 : ((X.alloc (.cells #[.slice none 0 0, .slice none 0 0, .slice none 0 0, .int .i64 0] 30)).alloc (.cells #[] 25)).ownsRow X.heap.size 25 5 (.slice (some ⟨X.heap.size + 1, 0, none⟩) 0 0) 0 [] := own0yOu (two_heap X (.cells #[.slice none 0 0, .slice none 0 0, .slice none 0 0, .int .i64 0] 30) (.cells #[] 25)).2 (by omega)
  have o3 : ((X.alloc (.cells #[] 25)).alloc (.cells #[.slice none 0 0, .slice none 0 0, .slice none 0 0, .int .i64 0] 30)).ownsRow X.heap.size 25 5 (.slice (some ⟨X.heap.size, 0, none⟩) 0 0) 0 [] := own0yOu (two_heap X (.cells #[] 25) (.cells #[.slice none 0 0, .slice none 0 0, .slice none 0 0, .int .i64 0] 30)).1 (by omega)
  have z2 : ((X.alloc (.cells #[.slice none 0 0, .slice none 0 0, .slice none 0 0, .int .i64 0] 30)).alloc (.cells #[] 25)).heap[X.heap.size]? = some (.cells #[.slice none 0 0, .slice none 0 0, .slice none 0 0, .int .i64 0] 30) := (two_heap X (.cells #[.slice none 0 0, .slice none 0 0, .slice none 0 0, .int .i64 0] 30) (.cells #[] 25)).1
  have z3 : ((X.alloc (.cells #[] 25)).alloc (.cells #[.slice none 0 0, .slice none 0 0, .slice none 0 0, .int .i64 0] 30)).heap[X.heap.size + 1]? = some (.cells #[.slice none 0 0, .slice none 0 0, .slice none 0 0, .int .i64 0] 30) := (two_heap X (.cells #[] 25) (.cells #[.slice none 0 0, .slice none 0 0, .slice none 0 0, .int .i64 0] 30)).2
  have r1 := (H2.out.1.below g1).row
  have r2 := (H2.out.1.below g2).row
  have r3 := (H2.out.1.below g3).row
  have HGG : Hid (Below X.heap.size X (X.alloc (.cells #[] 25)) ∧ Below X.heap.size X ((X.alloc (.cells #[.slice none 0 0, .slice none 0 0, .slice none 0 0, .int .i64 0] 30)).alloc (.cells #[] 25)) ∧ Below X.heap.size X ((X.alloc (.cells #[] 25)).alloc (.cells #[.slice none 0 0, .slice none 0 0, .slice none 0 0, .int .i64 0] 30)) ∧ ((X.alloc (.cells #[.slice none 0 0, .slice none 0 0, .slice none 0 0, .int .i64 0] 30)).alloc (.cells #[] 25)).heap[X.heap.size]? = some (.cells #[.slice none 0 0, .slice none 0 0, .slice none 0 0, .int .i64 0] 30) ∧ ((X.alloc (.cells #[] 25)).alloc (.cells #[.slice none 0 0, .slice none 0 0, .slice none 0 0, .int .i64 0] 30)).heap[X.heap.size + 1]? = some (.cells #[.slice none 0 0, .slice none 0 0, .slice none 0 0, .int .i64 0] 30)) := ⟨g1, g2, g3, z2, z3⟩
  obtain ⟨c0, c1, c2, c3, c4⟩ := HB.out X (Below.refl _ _)
  obtain ⟨ca0, ca1, ca2, ca3, ca4⟩ := HB.out _ g1
  obtain ⟨cb0, cb1, cb2, cb3, cb4⟩ := HB.out _ g2
  obtain ⟨cc0, cc1, cc2, cc3, cc4⟩ := HB.out _ g3
  obtain ⟨cd0, cd1, cd2, cd3, cd4⟩ := HB.out (X.alloc (.cells #[.slice none 0 0, .slice none 0 0, .slice none 0 0, .int .i64 0] 30)) ((Below.refl _ _).alloc (Nat.le_refl _) _)
  clear g1 g2 g3 z2 z3
  have qn00 : P ≠ X.heap.size := Nat.ne_of_lt (cell_lt c0)
  have qm00 : X.heap.size ≠ P := Ne.symm qn00
  have qn90 : P ≠ X.heap.size + 1 := Nat.ne_of_lt (Nat.lt_succ_of_lt (cell_lt c0))
  have qm90 : X.heap.size + 1 ≠ P := Ne.symm qn90
  go_cut [6] from 19 to 23 (fun s6 wx => ∃ BX A C' b, s6 = .pointer (some ⟨BX, 0, none⟩) ∧ wx.heap[BX]? = some (.cells #[.slice A L.length C', .slice none 0 0, .slice none 0 0, .int .i64 cd] 30) ∧ LOu b wx (.slice A L.length C') L ∧ Below X.heap.size X wx)
  case first =>
    go_region_held3 (fun W => W.cell? ⟨P, 0, none⟩ = some (.string l.partner) ∧ W.cell? ⟨P, 1, none⟩ = some (.int .i64 l.number) ∧ W.cell? ⟨P, 2, none⟩ = some (.string l.text) ∧ W.cell? ⟨P, 3, none⟩ = some (.int .i64 l.tries) ∧ W.cell? ⟨P, 4, none⟩ = some (.int .i64 l.due)) (go_keep) (first | (go_at_call 7; refine (QI.out _ _ _ (by with_reducible first | exact hr3 | exact hr3a)).mono ?_; rintro e w4 ⟨u4, b4', rfl, hge4, hL4, hb4⟩; obtain ⟨A4, C4, rfl⟩ := hL4.row.val; have b34 : Below w3.heap.size w3 w4 := (by with_reducible first | exact hb4 | exact (bxC hb4).2); have b4 := b3.trans (b34.mono b3.size); (try (with_reducible have kx := (bxC hb4).1)); (try (have kx := (b34.block _ (Array.getElem?_eq_some_iff.1 kz).1).trans kz)); (try (have kc := bx4 kx; obtain ⟨m0, m1, m2, m3⟩ := kc)); (try (have hfz := frz kx)); obtain ⟨e0, e1, e2, e3, e4⟩ := HB.out w4 b4; have b4a : Below X.heap.size X (w4.alloc (.cells #[.slice none 0 0, .slice none 0 0, .slice none 0 0, .int .i64 0] 30)) := b4.alloc b4.size _; obtain ⟨ea0, ea1, ea2, ea3, ea4⟩ := HB.out _ b4a; have qn20 : P ≠ w4.heap.size := Nat.ne_of_lt (cell_lt e0); have qm20 : w4.heap.size ≠ P := Ne.symm qn20; clear hb4; try dsimp only) | (refine step_copyOuW (base := X.heap.size) (by rfl) _ _ (by rfl) (by rfl) (by rfl) o1.drew (r1.below (Below.refl _ _).drew) (by omega) (by simp; try omega) ?_; intro A3 C3 w3 hr3 hA3 hc3 hk3 hb3; obtain ⟨ad3, rfl, _⟩ := hA3; have b3 : Below X.heap.size X w3 := HGG.out.1.drew.trans hb3; obtain ⟨d0, d1, d2, d3, d4⟩ := HB.out w3 b3; have b3a : Below X.heap.size X (w3.alloc (.cells #[.slice none 0 0, .slice none 0 0, .slice none 0 0, .int .i64 0] 30)) := b3.alloc b3.size _; obtain ⟨da0, da1, da2, da3, da4⟩ := HB.out _ b3a; have hr3a := hr3.below ((Below.refl _ w3).alloc (Nat.le_refl _) (.cells #[.slice none 0 0, .slice none 0 0, .slice none 0 0, .int .i64 0] 30)); have qn10 : P ≠ w3.heap.size := Nat.ne_of_lt (cell_lt d0); have qm10 : w3.heap.size ≠ P := Ne.symm qn10; clear hb3 hk3; try dsimp only) | (refine step_copyOuW (base := X.heap.size) (by rfl) _ _ (by rfl) (by rfl) (by rfl) o2.drew (r2.below (Below.refl _ _).drew) (by omega) (by simp; try omega) ?_; intro A3 C3 w3 hr3 hA3 hc3 hk3 hb3; obtain ⟨ad3, rfl, _⟩ := hA3; have b3 : Below X.heap.size X w3 := HGG.out.2.1.drew.trans hb3; have kz : w3.heap[X.heap.size]? = some (.cells #[.slice none 0 0, .slice none 0 0, .slice none 0 0, .int .i64 0] 30) := (hk3 X.heap.size (by simp; try omega) (by omega)).trans HGG.out.2.2.2.1; obtain ⟨d0, d1, d2, d3, d4⟩ := HB.out w3 b3; have b3a : Below X.heap.size X (w3.alloc (.cells #[.slice none 0 0, .slice none 0 0, .slice none 0 0, .int .i64 0] 30)) := b3.alloc b3.size _; obtain ⟨da0, da1, da2, da3, da4⟩ := HB.out _ b3a; have hr3a := hr3.below ((Below.refl _ w3).alloc (Nat.le_refl _) (.cells #[.slice none 0 0, .slice none 0 0, .slice none 0 0, .int .i64 0] 30)); have qn10 : P ≠ w3.heap.size := Nat.ne_of_lt (cell_lt d0); have qm10 : w3.heap.size ≠ P := Ne.symm qn10; clear hb3 hk3; try dsimp only) | (refine step_copyOuW (base := X.heap.size) (by rfl) _ _ (by rfl) (by rfl) (by rfl) o3.drew (r3.below (Below.refl _ _).drew) (by omega) (by simp; try omega) ?_; intro A3 C3 w3 hr3 hA3 hc3 hk3 hb3; obtain ⟨ad3, rfl, _⟩ := hA3; have b3 : Below X.heap.size X w3 := HGG.out.2.2.1.drew.trans hb3; have kz : w3.heap[X.heap.size + 1]? = some (.cells #[.slice none 0 0, .slice none 0 0, .slice none 0 0, .int .i64 0] 30) := (hk3 (X.heap.size + 1) (by simp; try omega) (by omega)).trans HGG.out.2.2.2.2; obtain ⟨d0, d1, d2, d3, d4⟩ := HB.out w3 b3; have b3a : Below X.heap.size X (w3.alloc (.cells #[.slice none 0 0, .slice none 0 0, .slice none 0 0, .int .i64 0] 30)) := b3.alloc b3.size _; obtain ⟨da0, da1, da2, da3, da4⟩ := HB.out _ b3a; have hr3a := hr3.below ((Below.refl _ w3).alloc (Nat.le_refl _) (.cells #[.slice none 0 0, .slice none 0 0, .slice none 0 0, .int .i64 0] 30)); have qn10 : P ≠ w3.heap.size := Nat.ne_of_lt (cell_lt d0); have qm10 : w3.heap.size ≠ P := Ne.symm qn10; clear hb3 hk3; try dsimp only))
    all_goals (rename_i hHeld; clear hHeld)
    all_goals go_wp2_with fail
    all_goals go_meet
    · exact ⟨_, _, _, b4', rfl, World.alloc_heap_new _ _, hL4.below ((Below.refl _ _).alloc (Nat.le_refl _) _), b4.alloc b4.size _⟩
    · exact ⟨_, _, _, b4', rfl, st4 kx, lou_set hL4 kx set4_other, set4_below b4 b3.size⟩
    · exact ⟨_, _, _, b4', rfl, st4 kx, lou_set hL4 kx set4_other, set4_below b4 (by omega)⟩
    · exact ⟨_, _, _, b4', rfl, st4 kx, lou_set hL4 kx set4_other, set4_below b4 (Nat.le_refl _)⟩
  case rest =>
    obtain ⟨BX, A6, C6, b6, rfl, hBX, hL6, hb6⟩ := hcut
    rename World => Y
    have H6 : Hid (SO P l (.slice ad rs.length C) rs w Y ∧ Y.heap[BX]? = some (.cells #[.slice A6 L.length C6, .slice none 0 0, .slice none 0 0, .int .i64 cd] 30) ∧ RowOu Y (.slice A6 L.length C6) L) := ⟨H2.out.1.below hb6, hBX, hL6.row⟩
    obtain ⟨_, _, _, y3⟩ := bx4 ((hb6.block _ (Array.getElem?_eq_some_iff.1 H2.out.2).1).trans H2.out.2)
    obtain ⟨x0, x1, x2, x3⟩ := bx4 hBX
    clear hBX hL6 hb6 HB HGG o1 o2 o3 r1 r2 r3 c0 c1 c2 c3 c4 ca0 ca1 ca2 ca3 ca4 cb0 cb1 cb2 cb3 cb4 cc0 cc1 cc2 cc3 cc4 cd0 cd1 cd2 cd3 cd4 qn00 qm00 qn90 qm90 QI
    by_cases hcd : cd = 0
    case neg =>
      have HE : Hid (Below w.heap.size w Y) := H6.out.1.bel
      go_wp2
      go_ret
      exact ⟨rfl, HE.out⟩
    obtain rfl := hcd
    have HPP : Hid (PutBack rs l L) := HPB.out rfl
    have QH : Hid (∀ W (ad2 : Addr) C2, RowOu W (.slice (some ad2) L.length C2) L → (L.length ≤ C2 ∧ C2 ≤ 9223372036854775807) → Calls Try.prog 8 #[.slice (some ad2) L.length C2, .string l.partner, .int .i64 l.number] W fun e w' => ∃ u s q b, e = .returned (.agg #[u, s, q, .int .i64 0]) ∧ (∃ sa sc, s = .slice sa 0 sc) ∧ (∃ qa qc, q = .slice qa 0 qc) ∧ LOu b w' u rs ∧ Below W.heap.size W w') := fun W ad2 C2 hW hc => by
      have := outboxHeard_impl (some ad2) C2 L l.partner l.number W hW hc.1 hc.2 (fun c hc' => smZ (HSL.out c hc')) (by have := smZ HS.out.2; omega)
      rw [HPP.out.heard] at this
      refine this.mono ?_
      rintro e w' ⟨u, s, q, b1, b2, b3, he, _, _, _, hL, hb⟩
      obtain ⟨a1, c1, a2, c2, a3, c3, e1, e2, e3⟩ := hL.row.val
      exact ⟨u, s, q, b1, he, ⟨a2, c2, e2⟩, ⟨a3, c3, e3⟩, hL.li, hb⟩
    have QG : Hid (∀ W (ad2 : Addr) C2, RowOu W (.slice (some ad2) rs.length C2) rs → (rs.length ≤ C2 ∧ C2 ≤ 9223372036854775807) → Calls Try.prog 8 #[.slice (some ad2) rs.length C2, .string l.partner, .int .i64 l.number] W fun e w' => ∃ (a1 : Option Addr) (n1 c1 : Nat) (a2 : Option Addr) (n2 c2 : Nat) (a3 : Option Addr) (n3 c3 : Nat), e = .returned (.agg #[.slice a1 n1 c1, .slice a2 n2 c2, .slice a3 n3 c3, .int .i64 6]) ∧ Below W.heap.size W w') := fun W ad2 C2 hW hc => by
      have := outboxHeard_impl (some ad2) C2 rs l.partner l.number W hW hc.1 hc.2 (fun c hc' => smZ (HS.out.1 c hc')) (by have := smZ HS.out.2; omega)
      rw [HPP.out.gone] at this
      refine this.mono ?_
      rintro e w' ⟨u, s, q, b1, b2, b3, he, _, _, _, hL, hb⟩
      obtain ⟨a1, c1, a2, c2, a3, c3, rfl, rfl, rfl⟩ := hL.row.val
      exact ⟨_, _, _, _, _, _, _, _, _, he, hb⟩
    clear HPB
    go_upto_region 10 with fail
    clear x0 x1 x2 x3 y3
    have HB : Hid (∀ W, Below Y.heap.size Y W → W.cell? ⟨P, 0, none⟩ = some (.string l.partner) ∧ W.cell? ⟨P, 1, none⟩ = some (.int .i64 l.number) ∧ W.cell? ⟨P, 2, none⟩ = some (.string l.text) ∧ W.cell? ⟨P, 3, none⟩ = some (.int .i64 l.tries) ∧ W.cell? ⟨P, 4, none⟩ = some (.int .i64 l.due) ∧ W.cell? ⟨BX, 0, none⟩ = some (.slice A6 L.length C6)) := fun W hW => by
      obtain ⟨p0, p1, p2, p3, p4⟩ := box5 (H6.out.1.below hW).box
      exact ⟨p0, p1, p2, p3, p4, (bx4 ((hW.block _ (Array.getElem?_eq_some_iff.1 H6.out.2.1).1).trans H6.out.2.1)).1⟩
    have g1 : Below Y.heap.size Y (Y.alloc (.cells #[] 25)) := (Below.refl _ _).alloc (Nat.le_refl _) _
    have g2 : Below Y.heap.size Y ((Y.alloc (.cells #[.slice none 0 0, .slice none 0 0, .slice none 0 0, .int .i64 0] 30)).alloc (.cells #[] 25)) := ((Below.refl _ _).alloc (Nat.le_refl _) _).alloc (by simp) _
    have g3 : Below Y.heap.size Y ((Y.alloc (.cells #[] 25)).alloc (.cells #[.slice none 0 0, .slice none 0 0, .slice none 0 0, .int .i64 0] 30)) := ((Below.refl _ _).alloc (Nat.le_refl _) _).alloc (by simp) _
    have o1 : (Y.alloc (.cells #[] 25)).ownsRow Y.heap.size 25 5 (.slice (some ⟨Y.heap.size, 0, none⟩) 0 0) 0 [] := own0Ou Y (Nat.le_refl _)
    have o2 : ((Y.alloc (.cells #[.slice none 0 0, .slice none 0 0, .slice none 0 0, .int .i64 0] 30)).alloc (.cells #[] 25)).ownsRow Y.heap.size 25 5 (.slice (some ⟨Y.heap.size + 1, 0, none⟩) 0 0) 0 [] := own0yOu (two_heap Y (.cells #[.slice none 0 0, .slice none 0 0, .slice none 0 0, .int .i64 0] 30) (.cells #[] 25)).2 (by omega)
    have o3 : ((Y.alloc (.cells #[] 25)).alloc (.cells #[.slice none 0 0, .slice none 0 0, .slice none 0 0, .int .i64 0] 30)).ownsRow Y.heap.size 25 5 (.slice (some ⟨Y.heap.size, 0, none⟩) 0 0) 0 [] := own0yOu (two_heap Y (.cells #[] 25) (.cells #[.slice none 0 0, .slice none 0 0, .slice none 0 0, .int .i64 0] 30)).1 (by omega)
    have z2 : ((Y.alloc (.cells #[.slice none 0 0, .slice none 0 0, .slice none 0 0, .int .i64 0] 30)).alloc (.cells #[] 25)).heap[Y.heap.size]? = some (.cells #[.slice none 0 0, .slice none 0 0, .slice none 0 0, .int .i64 0] 30) := (two_heap Y (.cells #[.slice none 0 0, .slice none 0 0, .slice none 0 0, .int .i64 0] 30) (.cells #[] 25)).1
    have z3 : ((Y.alloc (.cells #[] 25)).alloc (.cells #[.slice none 0 0, .slice none 0 0, .slice none 0 0, .int .i64 0] 30)).heap[Y.heap.size + 1]? = some (.cells #[.slice none 0 0, .slice none 0 0, .slice none 0 0, .int .i64 0] 30) := (two_heap Y (.cells #[] 25) (.cells #[.slice none 0 0, .slice none 0 0, .slice none 0 0, .int .i64 0] 30)).2
    have r1 := H6.out.2.2.below g1
    have r2 := H6.out.2.2.below g2
    have r3 := H6.out.2.2.below g3
    have HGG : Hid (Below Y.heap.size Y (Y.alloc (.cells #[] 25)) ∧ Below Y.heap.size Y ((Y.alloc (.cells #[.slice none 0 0, .slice none 0 0, .slice none 0 0, .int .i64 0] 30)).alloc (.cells #[] 25)) ∧ Below Y.heap.size Y ((Y.alloc (.cells #[] 25)).alloc (.cells #[.slice none 0 0, .slice none 0 0, .slice none 0 0, .int .i64 0] 30)) ∧ ((Y.alloc (.cells #[.slice none 0 0, .slice none 0 0, .slice none 0 0, .int .i64 0] 30)).alloc (.cells #[] 25)).heap[Y.heap.size]? = some (.cells #[.slice none 0 0, .slice none 0 0, .slice none 0 0, .int .i64 0] 30) ∧ ((Y.alloc (.cells #[] 25)).alloc (.cells #[.slice none 0 0, .slice none 0 0, .slice none 0 0, .int .i64 0] 30)).heap[Y.heap.size + 1]? = some (.cells #[.slice none 0 0, .slice none 0 0, .slice none 0 0, .int .i64 0] 30)) := ⟨g1, g2, g3, z2, z3⟩
    obtain ⟨c0, c1, c2, c3, c4, c5⟩ := HB.out Y (Below.refl _ _)
    obtain ⟨ca0, ca1, ca2, ca3, ca4, ca5⟩ := HB.out _ g1
    obtain ⟨cb0, cb1, cb2, cb3, cb4, cb5⟩ := HB.out _ g2
    obtain ⟨cc0, cc1, cc2, cc3, cc4, cc5⟩ := HB.out _ g3
    obtain ⟨cd0, cd1, cd2, cd3, cd4, cd5⟩ := HB.out (Y.alloc (.cells #[.slice none 0 0, .slice none 0 0, .slice none 0 0, .int .i64 0] 30)) ((Below.refl _ _).alloc (Nat.le_refl _) _)
    clear g1 g2 g3 z2 z3
    have qn00 : P ≠ Y.heap.size := Nat.ne_of_lt (cell_lt c0)
    have qm00 : Y.heap.size ≠ P := Ne.symm qn00
    have qn90 : P ≠ Y.heap.size + 1 := Nat.ne_of_lt (Nat.lt_succ_of_lt (cell_lt c0))
    have qm90 : Y.heap.size + 1 ≠ P := Ne.symm qn90
    have qn01 : BX ≠ Y.heap.size := Nat.ne_of_lt (cell_lt c5)
    have qm01 : Y.heap.size ≠ BX := Ne.symm qn01
    have qn91 : BX ≠ Y.heap.size + 1 := Nat.ne_of_lt (Nat.lt_succ_of_lt (cell_lt c5))
    have qm91 : Y.heap.size + 1 ≠ BX := Ne.symm qn91
    go_cut [7] from 32 to 40 (fun s7 wx => ∃ BY A C' b sa sc qa qc, s7 = .pointer (some ⟨BY, 0, none⟩) ∧ wx.heap[BY]? = some (.cells #[.slice A rs.length C', .slice sa 0 sc, .slice qa 0 qc, .int .i64 0] 30) ∧ LOu b wx (.slice A rs.length C') rs ∧ Below Y.heap.size Y wx)
    case first =>
      go_region_held3 (fun W => W.cell? ⟨P, 0, none⟩ = some (.string l.partner) ∧ W.cell? ⟨P, 1, none⟩ = some (.int .i64 l.number) ∧ W.cell? ⟨P, 2, none⟩ = some (.string l.text) ∧ W.cell? ⟨P, 3, none⟩ = some (.int .i64 l.tries) ∧ W.cell? ⟨P, 4, none⟩ = some (.int .i64 l.due) ∧ W.cell? ⟨BX, 0, none⟩ = some (.slice A6 L.length C6)) (go_keep) (first | (go_at_call 8; refine (QH.out _ _ _ (by with_reducible first | exact hr3 | exact hr3a) hc3).mono ?_; rintro e w4 ⟨u4, s4, q4, b4', rfl, ⟨sa, sc, rfl⟩, ⟨qa, qc, rfl⟩, hL4, hb4⟩; obtain ⟨A4, C4, rfl⟩ := hL4.row.val; have b34 : Below w3.heap.size w3 w4 := (by with_reducible first | exact hb4 | exact (bxC hb4).2); have b4 := b3.trans (b34.mono b3.size); (try (with_reducible have kx := (bxC hb4).1)); (try (have kx := (b34.block _ (Array.getElem?_eq_some_iff.1 kz).1).trans kz)); (try (have kc := bx4 kx; obtain ⟨m0, m1, m2, m3⟩ := kc)); (try (have hfz := frz kx)); obtain ⟨e0, e1, e2, e3, e4, e5⟩ := HB.out w4 b4; have b4a : Below Y.heap.size Y (w4.alloc (.cells #[.slice none 0 0, .slice none 0 0, .slice none 0 0, .int .i64 0] 30)) := b4.alloc b4.size _; obtain ⟨ea0, ea1, ea2, ea3, ea4, ea5⟩ := HB.out _ b4a; have qn20 : P ≠ w4.heap.size := Nat.ne_of_lt (cell_lt e0); have qm20 : w4.heap.size ≠ P := Ne.symm qn20; have qn21 : BX ≠ w4.heap.size := Nat.ne_of_lt (cell_lt e5); have qm21 : w4.heap.size ≠ BX := Ne.symm qn21; clear hb4; try dsimp only) | (refine step_copyOuW (base := Y.heap.size) (by rfl) _ _ (by rfl) (by rfl) (by rfl) o1.drew (r1.below (Below.refl _ _).drew) (by omega) (by simp; try omega) ?_; intro A3 C3 w3 hr3 hA3 hc3 hk3 hb3; obtain ⟨ad3, rfl, _⟩ := hA3; have b3 : Below Y.heap.size Y w3 := HGG.out.1.drew.trans hb3; obtain ⟨d0, d1, d2, d3, d4, d5⟩ := HB.out w3 b3; have b3a : Below Y.heap.size Y (w3.alloc (.cells #[.slice none 0 0, .slice none 0 0, .slice none 0 0, .int .i64 0] 30)) := b3.alloc b3.size _; obtain ⟨da0, da1, da2, da3, da4, da5⟩ := HB.out _ b3a; have hr3a := hr3.below ((Below.refl _ w3).alloc (Nat.le_refl _) (.cells #[.slice none 0 0, .slice none 0 0, .slice none 0 0, .int .i64 0] 30)); have qn10 : P ≠ w3.heap.size := Nat.ne_of_lt (cell_lt d0); have qm10 : w3.heap.size ≠ P := Ne.symm qn10; have qn11 : BX ≠ w3.heap.size := Nat.ne_of_lt (cell_lt d5); have qm11 : w3.heap.size ≠ BX := Ne.symm qn11; clear hb3 hk3; try dsimp only) | (refine step_copyOuW (base := Y.heap.size) (by rfl) _ _ (by rfl) (by rfl) (by rfl) o2.drew (r2.below (Below.refl _ _).drew) (by omega) (by simp; try omega) ?_; intro A3 C3 w3 hr3 hA3 hc3 hk3 hb3; obtain ⟨ad3, rfl, _⟩ := hA3; have b3 : Below Y.heap.size Y w3 := HGG.out.2.1.drew.trans hb3; have kz : w3.heap[Y.heap.size]? = some (.cells #[.slice none 0 0, .slice none 0 0, .slice none 0 0, .int .i64 0] 30) := (hk3 Y.heap.size (by simp; try omega) (by omega)).trans HGG.out.2.2.2.1; obtain ⟨d0, d1, d2, d3, d4, d5⟩ := HB.out w3 b3; have b3a : Below Y.heap.size Y (w3.alloc (.cells #[.slice none 0 0, .slice none 0 0, .slice none 0 0, .int .i64 0] 30)) := b3.alloc b3.size _; obtain ⟨da0, da1, da2, da3, da4, da5⟩ := HB.out _ b3a; have hr3a := hr3.below ((Below.refl _ w3).alloc (Nat.le_refl _) (.cells #[.slice none 0 0, .slice none 0 0, .slice none 0 0, .int .i64 0] 30)); have qn10 : P ≠ w3.heap.size := Nat.ne_of_lt (cell_lt d0); have qm10 : w3.heap.size ≠ P := Ne.symm qn10; have qn11 : BX ≠ w3.heap.size := Nat.ne_of_lt (cell_lt d5); have qm11 : w3.heap.size ≠ BX := Ne.symm qn11; clear hb3 hk3; try dsimp only) | (refine step_copyOuW (base := Y.heap.size) (by rfl) _ _ (by rfl) (by rfl) (by rfl) o3.drew (r3.below (Below.refl _ _).drew) (by omega) (by simp; try omega) ?_; intro A3 C3 w3 hr3 hA3 hc3 hk3 hb3; obtain ⟨ad3, rfl, _⟩ := hA3; have b3 : Below Y.heap.size Y w3 := HGG.out.2.2.1.drew.trans hb3; have kz : w3.heap[Y.heap.size + 1]? = some (.cells #[.slice none 0 0, .slice none 0 0, .slice none 0 0, .int .i64 0] 30) := (hk3 (Y.heap.size + 1) (by simp; try omega) (by omega)).trans HGG.out.2.2.2.2; obtain ⟨d0, d1, d2, d3, d4, d5⟩ := HB.out w3 b3; have b3a : Below Y.heap.size Y (w3.alloc (.cells #[.slice none 0 0, .slice none 0 0, .slice none 0 0, .int .i64 0] 30)) := b3.alloc b3.size _; obtain ⟨da0, da1, da2, da3, da4, da5⟩ := HB.out _ b3a; have hr3a := hr3.below ((Below.refl _ w3).alloc (Nat.le_refl _) (.cells #[.slice none 0 0, .slice none 0 0, .slice none 0 0, .int .i64 0] 30)); have qn10 : P ≠ w3.heap.size := Nat.ne_of_lt (cell_lt d0); have qm10 : w3.heap.size ≠ P := Ne.symm qn10; have qn11 : BX ≠ w3.heap.size := Nat.ne_of_lt (cell_lt d5); have qm11 : w3.heap.size ≠ BX := Ne.symm qn11; clear hb3 hk3; try dsimp only))
      all_goals (rename_i hHeld; clear hHeld)
      all_goals go_wp2_with fail
      all_goals go_meet
      · exact ⟨_, _, _, b4', _, _, _, _, rfl, World.alloc_heap_new _ _, hL4.below ((Below.refl _ _).alloc (Nat.le_refl _) _), b4.alloc b4.size _⟩
      · exact ⟨_, _, _, b4', _, _, _, _, rfl, st4 kx, lou_set hL4 kx set4_other, set4_below b4 b3.size⟩
      · exact ⟨_, _, _, b4', _, _, _, _, rfl, st4 kx, lou_set hL4 kx set4_other, set4_below b4 (by omega)⟩
      · exact ⟨_, _, _, b4', _, _, _, _, rfl, st4 kx, lou_set hL4 kx set4_other, set4_below b4 (Nat.le_refl _)⟩
    case rest =>
      obtain ⟨BY, A7, C7, b7, sa, sc, qa, qc, rfl, hBY, hL7, hb7⟩ := hcut
      rename World => V
      have H7 : Hid (SO P l (.slice ad rs.length C) rs w V ∧ V.heap[BX]? = some (.cells #[.slice A6 L.length C6, .slice none 0 0, .slice none 0 0, .int .i64 0] 30) ∧ RowOu V (.slice A6 L.length C6) L ∧ V.heap[BY]? = some (.cells #[.slice A7 rs.length C7, .slice sa 0 sc, .slice qa 0 qc, .int .i64 0] 30) ∧ RowOu V (.slice A7 rs.length C7) rs) := ⟨H6.out.1.below hb7, (hb7.block _ (Array.getElem?_eq_some_iff.1 H6.out.2.1).1).trans H6.out.2.1, H6.out.2.2.below hb7, hBY, hL7.row⟩
      clear HB HGG o1 o2 o3 r1 r2 r3 c0 c1 c2 c3 c4 c5 ca0 ca1 ca2 ca3 ca4 ca5 cb0 cb1 cb2 cb3 cb4 cb5 cc0 cc1 cc2 cc3 cc4 cc5 cd0 cd1 cd2 cd3 cd4 cd5 qn00 qm00 qn90 qm90 qn01 qm01 qn91 qm91 QH hBY hL7 hb7
      have HB : Hid (∀ W, Below V.heap.size V W → (W.cell? ⟨P, 0, none⟩ = some (.string l.partner) ∧ W.cell? ⟨P, 1, none⟩ = some (.int .i64 l.number) ∧ W.cell? ⟨BX, 0, none⟩ = some (.slice A6 L.length C6) ∧ W.cell? ⟨BY, 0, none⟩ = some (.slice A7 rs.length C7) ∧ W.cell? ⟨BY, 3, none⟩ = some (.int .i64 0)) ∧ RowOu W (.slice A6 L.length C6) L ∧ RowOu W (.slice A7 rs.length C7) rs ∧ RowOu W (.slice ad rs.length C) rs) := fun W hW => by
        obtain ⟨p0, p1, _⟩ := box5 (H7.out.1.below hW).box
        obtain ⟨x0, _, _, _⟩ := bx4 ((hW.block _ (Array.getElem?_eq_some_iff.1 H7.out.2.1).1).trans H7.out.2.1)
        obtain ⟨y0, _, _, y3⟩ := bx4 ((hW.block _ (Array.getElem?_eq_some_iff.1 H7.out.2.2.2.1).1).trans H7.out.2.2.2.1)
        exact ⟨⟨p0, p1, x0, y0, y3⟩, H7.out.2.2.1.below hW, H7.out.2.2.2.2.below hW, (H7.out.1.below hW).row⟩
      have QR : Hid (∀ v W, RowOu W v L → Calls Try.prog 9 #[v] W fun e w' => e = .returned (.bool true) ∧ Below W.heap.size W w') := fun v W hW => by
        have := outboxRight_impl v L W hW
        rw [HPP.out.right] at this
        exact this
      have g1 : Below V.heap.size V (V.alloc (.cells #[] 25)) := (Below.refl _ _).alloc (Nat.le_refl _) _
      have o1 : (V.alloc (.cells #[] 25)).ownsRow V.heap.size 25 5 (.slice (some ⟨V.heap.size, 0, none⟩) 0 0) 0 [] := own0Ou V (Nat.le_refl _)
      have r1 := (HB.out _ g1).2.1
      have HGG : Hid (Below V.heap.size V (V.alloc (.cells #[] 25))) := g1
      obtain ⟨c0, c1, c2, c3, c4⟩ := (HB.out V (Below.refl _ _)).1
      obtain ⟨ca0, ca1, ca2, ca3, ca4⟩ := (HB.out _ g1).1
      have hq1 : ((L.length : Int) == (rs.length : Int) + 1) = true := by rw [HPP.out.len]; simp
      have hq2 : IntKind.i64.wrap ((rs.length : Int) + 1) = (rs.length : Int) + 1 := by rw [IntKind.wrap_i64]; omega
      clear g1
      go_wp2_with fail
      go_region_held3 (fun W => W.cell? ⟨P, 0, none⟩ = some (.string l.partner) ∧ W.cell? ⟨P, 1, none⟩ = some (.int .i64 l.number) ∧ W.cell? ⟨BX, 0, none⟩ = some (.slice A6 L.length C6) ∧ W.cell? ⟨BY, 0, none⟩ = some (.slice A7 rs.length C7) ∧ W.cell? ⟨BY, 3, none⟩ = some (.int .i64 0)) (go_keep) (first | (go_at_call 8; refine (QG.out _ _ _ hr6 hc6).mono ?_; rintro e w7 ⟨t1, n1, i1, t2, n2, i2, t3, n3, i3, rfl, hb7⟩; have hf3 := fld3 t1 t2 t3 n1 n2 n3 i1 i2 i3 6; have b7 := b6.trans (hb7.mono b6.size); clear hb7; obtain ⟨k0, k1, k2, k3, k4⟩ := (HB.out w7 b7).1; obtain ⟨kx0, kx1, kx2, kx3, kx4⟩ := (HB.out (w7.alloc (.cells #[] 25)) (b7.alloc b7.size _)).1; try dsimp only) | (refine step_copyOuW (base := w5.heap.size) (by rfl) _ _ (by rfl) (by rfl) (by rfl) (own0Ou w5 (Nat.le_refl _)) ((HB.out _ b5).2.2.1.below ((Below.refl _ w5).alloc (Nat.le_refl _) (.cells #[] 25))) (by omega) (by simp) ?_; intro A6' C6' w6 hr6 hA6 hc6 hk6 hb6; obtain ⟨ad6, rfl, _⟩ := hA6; have b6 : Below V.heap.size V w6 := b5.trans ((((Below.refl _ w5).alloc (Nat.le_refl _) (.cells #[] 25)).trans hb6).mono b5.size); clear hb6 hk6; obtain ⟨j0, j1, j2, j3, j4⟩ := (HB.out w6 b6).1; obtain ⟨jx0, jx1, jx2, jx3, jx4⟩ := (HB.out (w6.alloc (.cells #[] 25)) (b6.alloc b6.size _)).1; try dsimp only) | (go_at_call 10; refine (lwOuts_any _ _ rs _ (HB.out _ b4).2.2.1 (HB.out _ b4).2.2.2).mono ?_; rintro e w5 ⟨rfl, hb5⟩; have b5 := b4.trans (hb5.mono b4.size); clear hb5; obtain ⟨f0, f1, f2, f3, f4⟩ := (HB.out w5 b5).1; obtain ⟨fx0, fx1, fx2, fx3, fx4⟩ := (HB.out (w5.alloc (.cells #[] 25)) (b5.alloc b5.size _)).1; try dsimp only) | (go_at_call 9; refine (QR.out _ _ hr3).mono ?_; rintro e w4 ⟨rfl, hb4⟩; have b4 := b3.trans (hb4.mono b3.size); clear hb4; obtain ⟨e0, e1, e2, e3, e4⟩ := (HB.out w4 b4).1; obtain ⟨ex0, ex1, ex2, ex3, ex4⟩ := (HB.out (w4.alloc (.cells #[] 25)) (b4.alloc b4.size _)).1; try dsimp only) | (refine step_copyOuW (base := V.heap.size) (by rfl) _ _ (by rfl) (by rfl) (by rfl) o1.drew (r1.below (Below.refl _ _).drew) (by omega) (by simp) ?_; intro A3 C3 w3 hr3 hA3 hc3 hk3 hb3; obtain ⟨ad3, rfl, _⟩ := hA3; have b3 : Below V.heap.size V w3 := HGG.out.drew.trans hb3; clear hb3 hk3; obtain ⟨d0, d1, d2, d3, d4⟩ := (HB.out w3 b3).1; obtain ⟨dx0, dx1, dx2, dx3, dx4⟩ := (HB.out (w3.alloc (.cells #[] 25)) (b3.alloc b3.size _)).1; try dsimp only) | fail)
      rename_i hHeld
      clear hHeld
      have HE : Hid (Below w.heap.size w w7) := H7.out.1.bel.trans (b7.mono H7.out.1.bel.size)
      clear b3 b4 b5 b6 b7
      go_wp2
      go_ret
      exact ⟨rfl, HE.out⟩
theorem own : ownKnob Try.prog.godebug = none := by kernel_rfl
theorem laidOut : laidOutB Try.prog = true := by kernel_rfl
set_option maxRecDepth 100000 in
theorem lifted (os : Os) (started : os.Started) (H : Type) (enc : TypeId × Value → H) :
    ReturnsInHanded {} Try.checked os 3 .any (Rows.fnOutboxSpec.pre6 enc Try.prog Try.f3 Rows.fnOutboxRow.domain false) (Rows.fnOutboxSpec.post enc Try.prog Try.f3 false true false false) := by
  refine returnsInHanded_of_change (C := Try.checked) own started (by kernel_rfl) Try.func3
    (ChangeSpec.witness6 (enc := enc) (C := Try.checked) false ⟨#[], #[.slice none 0 0], []⟩ 8 (by kernel_rfl) (by kernel_rfl) (by kernel_rfl) (by kernel_rfl)) ?_
  intro W base args ds gs before hval0 hW hcnd _
  have hval : ∀ (j : Nat) t v, Try.f3.params[j]? = some t → args[j]? = some v → Value.okWide Try.prog W .any base t v := hval0
  have hW' := hW
  obtain ⟨p, q, hA0, hV, rfl, hfz, hnd⟩ := hW
  have hA : DataW.TrodAll enc Try.prog W 0 (fun _ => true) true Try.f3.params.toList args.toList ds p := hA0
  rw [Try.params3] at hA hval
  obtain ⟨v0, vs0, d0, ds0, p0, q0, hargs, rfl, rfl, h0, r0⟩ := trodAll_cons hA
  obtain ⟨rfl, rfl, rfl⟩ := trodAll_nil r0
  obtain rfl : args = #[v0] := by cases args; simp_all
  obtain ⟨rfl, rfl⟩ := trodVars_none hV
  obtain ⟨a0, len0, cap0, rfl⟩ := okWide_slice Try.underlying22 (hval 0 22 v0 rfl rfl)
  have k0 := h0
  have lt0 : ∀ x ∈ p0, x.block < W.heap.size := by obtain ⟨m, hm⟩ := k0; exact DataW.trod_lt m _ _ _ hm
  obtain ⟨z0, w0⟩ : ∃ zs, IsRow .u8 W a0 len0 cap0 zs := by
    obtain ⟨fuel, hf⟩ := h0
    rcases open_ints Try.underlying22 Try.underlying5 (by kernel_rfl) hf with ⟨hcs, _⟩ | ⟨x, l, c, zs, hcs, _, hl, hm, hz, _, hcell, hwz⟩
    · simp [Value.cells] at hcs
      obtain ⟨rfl, rfl, rfl⟩ := hcs
      exact ⟨[], .inl ⟨rfl, rfl, rfl, rfl⟩⟩
    · simp [Value.cells] at hcs
      obtain ⟨rfl, rfl, rfl⟩ := hcs
      exact ⟨zs, .inr ⟨_, rfl, hl, hm, by simpa using hz, hcell, hwz⟩⟩
  clear hA0 hval0
  refine (walk a0 len0 cap0 z0 W w0).mono fun e W' ⟨he, bel⟩ => ?_
  subst he
  exact ⟨_, rfl, _, _, _, [], _, [], hW', trodAll_mk1 (shut_bool Try.underlying4 _), (trodAll_cons_mk (Below.trod laidOut (by kernel_rfl) (of_decide_eq_true (by kernel_rfl)) k0 bel lt0) trodAll_mk0), rfl, bel.frame _, fun h => by cases h⟩
theorem over : Rows.fnOutboxRow.holds Try.pinned (OpenSpec.ofChange Rows.fnOutboxSpec) :=
  OpenClaim.holds_of_wide 3 Try.f3 rfl rfl rfl rfl rfl rfl rfl ⟨rfl, rfl, rfl, rfl, rfl⟩ rfl rfl rfl rfl rfl (by kernel_rfl) Try.func3 (by kernel_rfl)
    (of_decide_eq_true (by kernel_rfl)) (by unfold Func.isWrapper; first | (rw [if_pos (by decide +kernel)]; kernel_rfl) | (rw [if_neg (by decide +kernel)]; exact ⟨rfl, rfl⟩))
    (fun os started H enc _ => lifted os started H enc)
end fnOutbox
theorem fnOutbox_holds : Rows.FnOutboxSaid := fnOutbox.over
#print axioms fnOutbox_holds
end Go.Proofs.Ytiakkpglnijapaa
