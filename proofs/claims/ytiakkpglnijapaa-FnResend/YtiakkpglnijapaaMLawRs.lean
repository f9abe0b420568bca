/- FnResend returns true at every two texts and leaves them as they were: a drawn thing in an outbox is sent at most as often as there are tries left, later each time by three days more, and an outbox loses nothing but what was tried often enough; no condition. -/
import Derived.Test.YtiakkpglnijapaaG34
import Derived.Test.YtiakkpglnijapaaG35
import Derived.Test.YtiakkpglnijapaaG36
import Derived.Test.YtiakkpglnijapaaG37
import Derived.Test.YtiakkpglnijapaaG39
import Derived.Test.YtiakkpglnijapaaG43
import Derived.Test.YtiakkpglnijapaaG50
import Derived.Test.YtiakkpglnijapaaG42
import Derived.Test.YtiakkpglnijapaaG17
import Derived.Laws.StructEq
import Derived.Deep.RegionHeld3
import Derived.Deep.RegionLaw
import Derived.Deep.Cut
import Derived.Deep.CutRange
import Derived.Deep.QuietTactic
import Derived.BigQuiet
import Derived.BigRegion
import Derived.Shelf.SlSortCmp.QuietGrown
namespace Go.Proofs.Ytiakkpglnijapaa
open Go.ChangeShapes Go.WideShapes Go.ChangeAt Go.RowKit
open Go.Sort
set_option linter.unusedVariables false
namespace fnResend
def IsRow (k : IntKind) (w : World) (a : Option Addr) (len cap : Nat) (zs : List Int) : Prop :=
  (a = none ∧ len = 0 ∧ cap = 0 ∧ zs = []) ∨
  ∃ x, a = some x ∧ len ≤ cap ∧ cap ≤ maxLen ∧ zs.length = cap ∧ (∀ i, i < zs.length → w.cell? (x.add i) = some (.int k (zs.getD i 0))) ∧ ∀ n ∈ zs, (Lit.int k n).wf = true
theorem IsRow.bytesAt {w : World} {a : Option Addr} {len cap : Nat} {zs : List Int} (h : IsRow .u8 w a len cap zs) : BytesAt w a len zs := by
  intro g
  rcases h with ⟨_, rfl, _, _⟩ | ⟨x, rfl, hl, _, hz, hc, _⟩
  · omega
  · obtain ⟨b, off, spot⟩ := x
    have h0 := hc 0 (by omega)
    have hspot : spot = none := by simpa [Addr.add] using World.cell?_spot h0
    subst hspot
    refine ⟨b, off, rfl, fun i hi => ?_⟩
    have hplain : (⟨b, off, none⟩ : Addr).add i = ⟨b, off + i, none⟩ := by unfold Addr.add; split <;> simp_all
    have := hc i (by omega)
    rw [hplain] at this
    simpa [List.getD] using this
theorem IsRow.len_le {w : World} {a : Option Addr} {len cap : Nat} {zs : List Int} (h : IsRow .u8 w a len cap zs) : len ≤ 9223372036854775807 := by
  rcases h with ⟨_, rfl, _, _⟩ | ⟨x, rfl, hl, hm, hz, hc, _⟩
  · omega
  · unfold maxLen at hm
    omega
theorem und {a b : World} (h : Below a.drew.heap.size a.drew b) : Below a.heap.size a b := (Below.refl _ _).drew.trans h
theorem bxC {X W : World} {o : Obj} (h : Below (X.alloc o).heap.size (X.alloc o) W) : W.heap[X.heap.size]? = some o ∧ Below X.heap.size X W := by
  have h0 : Below X.heap.size X (X.alloc o) := (Below.refl _ _).alloc (Nat.le_refl _) o
  have e : (X.alloc o).heap[X.heap.size]? = some o := World.alloc_heap_new X o
  exact ⟨(h.block _ (Array.getElem?_eq_some_iff.1 e).1).trans e, h0.trans (h.mono h0.size)⟩
theorem frz {W : World} {b t : Nat} {cs : Array Value} (h : W.heap[b]? = some (.cells cs t)) : ∀ o, W.frozen? ⟨b, o, none⟩ = false := fun o => by simp [World.frozen?, h]
theorem fld3 (a b c : Option Addr) (n m k n' m' k' : Nat) (z : Int) (w : World) : (Instr.field 30 (.agg #[.slice a n n', .slice b m m', .slice c k k', .int .i64 z]) 3).run Try.prog w = .ok (.int .i64 z) w := by kernel_rfl
theorem smZ {l : OutR} (h : SmO l) : l.partner.size ≤ 1048576 ∧ l.text.size ≤ 1048576 := by
  obtain ⟨h1, h2⟩ := h
  omega
theorem bytesAt_belowL {w w' : World} {a : Option Addr} {len : Nat} {zs : List Int} (h : BytesAt w a len zs) (hb : Below w.heap.size w w') : BytesAt w' a len zs := by
  intro g
  obtain ⟨b, off, e, hc⟩ := h g
  exact ⟨b, off, e, fun i hi => (hb.cell (cell_lt (hc i hi))).trans (hc i hi)⟩
theorem RowN.atk {W : World} {A : Option Addr} {C : Nat} {xs : List Int} (h : RowN W (.slice A xs.length C) xs) {k : Nat} {x : Int} (hk : xs[k]? = some x) : ∃ b o, A = some ⟨b, o, none⟩ ∧ W.cell? ⟨b, o + k, none⟩ = some (.int .i64 x) := by
  obtain ⟨b, o, cap, z, e, hs, hc⟩ := h.at (List.getElem?_eq_some_iff.1 hk).1
  simp only [Value.slice.injEq, true_and] at e
  rw [hk] at hs
  cases hs
  exact ⟨b, o, e.1, hc⟩
set_option maxRecDepth 100000 in
set_option maxHeartbeats 16000000 in
theorem walk (a0 : Option Addr) (len0 cap0 : Nat) (z0 : List Int) (a1 : Option Addr) (len1 cap1 : Nat) (z1 : List Int) (w : World) (w0 : IsRow .u8 w a0 len0 cap0 z0) (w1 : IsRow .u8 w a1 len1 cap1 z1) :
    Calls Try.prog 4 #[.slice a0 len0 cap0, .slice a1 len1 cap1] w fun e w' => e = .returned (.bool true) ∧ Below w.heap.size w w' := by
  have hl0 := w0.len_le
  have hl1 := w1.len_le
  have HR : Hid (BytesAt w a0 len0 z0 ∧ BytesAt w a1 len1 z1) := ⟨w0.bytesAt, w1.bytesAt⟩
  clear w0 w1
  by_cases hg : 1048576 < len0
  · have hg' : (1048576 : Int) < (len0 : Int) := by omega
    clear HR
    go_enter Try.func4, Try.ntmps4
    go_wp2
    go_ret
    exact ⟨rfl, Below.refl _ _⟩
  have hg' : (len0 : Int) ≤ 1048576 := by omega
  by_cases hh : 1048576 < len1
  · have hh' : (1048576 : Int) < (len1 : Int) := by omega
    clear HR
    go_enter Try.func4, Try.ntmps4
    go_wp2
    go_ret
    exact ⟨rfl, Below.refl _ _⟩
  have hh' : (len1 : Int) ≤ 1048576 := by omega
  go_enter Try.func4, Try.ntmps4
  go_wp2_with fail
  refine (drawOutboxRun_any a0 len0 cap0 z0 _ (by omega) HR.out.1).mono ?_
  rintro e w1 ⟨l, ad, C, ds, rfl, hsl, hr, hds, hdl, hb1⟩
  obtain ⟨X, hX⟩ : ∃ X, w1.alloc (.cells #[.string l.partner, .int .i64 l.number, .string l.text, .int .i64 l.tries, .int .i64 l.due] 25) = X := ⟨_, rfl⟩
  obtain ⟨P, hP⟩ : ∃ P, P = w1.heap.size := ⟨_, rfl⟩
  have ha1 : Below w1.heap.size w1 X := by rw [← hX]; exact (Below.refl _ _).alloc (Nat.le_refl _) _
  have hx1 : X.heap[P]? = some (.cells #[.string l.partner, .int .i64 l.number, .string l.text, .int .i64 l.tries, .int .i64 l.due] 25) := by rw [← hX, hP]; exact World.alloc_heap_new _ _
  obtain ⟨xs, hxs⟩ : ∃ xs, xs = runO l ds := ⟨_, rfl⟩
  have HL : Hid (RunLaw l xs) := by rw [hxs]; exact runLaw hds
  have hx5 := HL.out.len
  have hz := smZ hsl
  have QI : Hid (∀ v W, RowN W v ds → Calls Try.prog 12 #[.agg #[.string l.partner, .int .i64 l.number, .string l.text, .int .i64 l.tries, .int .i64 l.due], v] W fun e w' => ∃ u, e = .returned u ∧ RowN w' u xs ∧ Below W.heap.size W w') := fun v W hW => by
    have := outboxRun_impl l v ds W hW (by omega)
    rw [← hxs] at this
    exact this.mono fun _ _ ⟨u, b, h1, _, h3, h4⟩ => ⟨u, h1, h3.row, h4⟩
  have QS : Hid (∀ v W, RowN W v ds → Calls Try.prog 13 #[.agg #[.string l.partner, .int .i64 l.number, .string l.text, .int .i64 l.tries, .int .i64 l.due], v] W fun e w' => ∃ u, e = .returned u ∧ RowN w' u xs ∧ Below W.heap.size W w') := fun v W hW => by
    have := outboxRun_spec l v ds W hW (by omega)
    rw [← hxs] at this
    exact this
  have H1 : Hid (Below w.heap.size w X ∧ X.heap[P]? = some (.cells #[.string l.partner, .int .i64 l.number, .string l.text, .int .i64 l.tries, .int .i64 l.due] 25) ∧ RowN X (.slice (some ad) ds.length C) ds) := ⟨hb1.trans (ha1.mono hb1.size), hx1, hr.below ha1⟩
  have HW : Hid (w1.alloc (.cells #[.string l.partner, .int .i64 l.number, .string l.text, .int .i64 l.tries, .int .i64 l.due] 25) = X ∧ P = w1.heap.size) := ⟨hX, hP⟩
  clear hr hb1 hX hP ha1 hx1 hxs hds hsl hz
  go_upto_region 4 with fail
  try rw [HW.out.1]
  try rw [← HW.out.2]
  clear HW
  have HB : Hid (∀ W, Below X.heap.size X W → (W.cell? ⟨P, 0, none⟩ = some (.string l.partner) ∧ W.cell? ⟨P, 1, none⟩ = some (.int .i64 l.number) ∧ W.cell? ⟨P, 2, none⟩ = some (.string l.text) ∧ W.cell? ⟨P, 3, none⟩ = some (.int .i64 l.tries) ∧ W.cell? ⟨P, 4, none⟩ = some (.int .i64 l.due)) ∧ RowN W (.slice (some ad) ds.length C) ds) := fun W hW => ⟨box5 ((hW.block _ (Array.getElem?_eq_some_iff.1 H1.out.2.1).1).trans H1.out.2.1), H1.out.2.2.below hW⟩
  have g1 : Below X.heap.size X (X.alloc (.cells #[] 2)) := (Below.refl _ _).alloc (Nat.le_refl _) _
  have o1 := own0N X (Nat.le_refl X.heap.size)
  have r1 := (HB.out _ g1).2
  have HGG : Hid (Below X.heap.size X (X.alloc (.cells #[] 2))) := g1
  obtain ⟨c0, c1, c2, c3, c4⟩ := (HB.out X (Below.refl _ _)).1
  obtain ⟨ca0, ca1, ca2, ca3, ca4⟩ := (HB.out _ g1).1
  clear g1
  go_region_held3 (fun W => W.cell? ⟨P, 0, none⟩ = some (.string l.partner) ∧ W.cell? ⟨P, 1, none⟩ = some (.int .i64 l.number) ∧ W.cell? ⟨P, 2, none⟩ = some (.string l.text) ∧ W.cell? ⟨P, 3, none⟩ = some (.int .i64 l.tries) ∧ W.cell? ⟨P, 4, none⟩ = some (.int .i64 l.due)) (go_keep) (first | (go_at_call 12; refine (QI.out _ _ hr3).mono ?_; rintro e w4 ⟨u4, rfl, hr4, hb4⟩; obtain ⟨A4, C4, rfl⟩ := hr4.val; have b4 := b3.trans (hb4.mono b3.size); obtain ⟨e0, e1, e2, e3, e4⟩ := (HB.out w4 b4).1; clear hb4; try dsimp only) | (refine step_copyN (base := X.heap.size) (by rfl) _ _ (by rfl) (by rfl) (by rfl) o1.drew (r1.below (Below.refl _ _).drew) (by omega) (by simp) ?_; intro A3 C3 w3 hr3 hb3; have b3 : Below X.heap.size X w3 := HGG.out.drew.trans hb3; obtain ⟨d0, d1, d2, d3, d4⟩ := (HB.out w3 b3).1; clear hb3; try dsimp only) | fail)
  rename_i hHeld
  clear hHeld
  have H4 : Hid (Below X.heap.size X w4 ∧ RowN w4 (.slice A4 xs.length C4) xs) := ⟨b4, hr4⟩
  clear b3 b4 hr3 hr4 o1 r1 HGG QI c0 c1 c2 c3 c4 ca0 ca1 ca2 ca3 ca4 d0 d1 d2 d3 d4
  go_wp2_with fail
  refine (QS.out _ _ (HB.out _ H4.out.1).2).mono ?_
  rintro e w5 ⟨u5, rfl, hr5, hb5⟩
  obtain ⟨A5, C5, rfl⟩ := hr5.val
  have H5 : Hid (Below X.heap.size X w5 ∧ RowN w5 (.slice A4 xs.length C4) xs) := ⟨H4.out.1.trans (hb5.mono H4.out.1.size), H4.out.2.below hb5⟩
  have hx5' : ¬ (5 : Int) < (xs.length : Int) := by omega
  clear hr5 hb5 H4 QS e0 e1 e2 e3 e4
  have mixed : Try.prog.follows .mixedOrders = true := by kernel_rfl
  go_wp2_with fail
  go_loopw [9] (fun i wr => ∃ k : Nat, i = .int .i64 (k : Int) ∧ k ≤ xs.length ∧ Below w5.heap.size w5 wr) (fun i _ => xs.length - (intOf i).toNat)
  case atStart => exact ⟨0, rfl, by omega, Below.refl _ _⟩
  case round =>
    obtain ⟨k, rfl, hk, hb⟩ := hrel
    have HI : Hid (Below w5.heap.size w5 wr) := hb
    have HBr : Hid (Below X.heap.size X wr) := H5.out.1.trans (hb.mono H5.out.1.size)
    clear hb
    by_cases hlt : k < xs.length
    · have hlt' : (k : Int) < (xs.length : Int) := by omega
      obtain ⟨x, hs⟩ : ∃ x, xs[k]? = some x := ⟨_, List.getElem?_eq_getElem hlt⟩
      obtain ⟨b, o, rfl, hcx⟩ := RowN.atk (H5.out.2.below HI.out) hs
      obtain ⟨bx0, bx1, bt0, bt1, bd0, bd1⟩ := HL.out.bd k x hs
      have hdue := HL.out.due k x hs
      obtain ⟨c0, c1, c2, c3, c4⟩ := (HB.out wr HBr.out).1
      have f0 := cell_grown (cell_lt hcx) hcx
      have f3 := cell_grown (cell_lt c3) c3
      have f4 := cell_grown (cell_lt c4) c4
      have HS : Hid (xs[k]? = some x) := hs
      clear hs hcx c0 c1 c2 c3 c4
      have d1 : decide (x < l.due) = false := by simp; omega
      go_upto_region 11 with fail
      go_cut [79] from 51 to 78 (fun t wx => t = .bool false ∧ Below w5.heap.size w5 wx)
      case first =>
        rcases Nat.eq_zero_or_pos k with k0 | k0
        · have d4 : decide (0 < (k : Int)) = false := by simp; omega
          have d4' : decide (0 < k) = false := by simp; omega
          clear k0
          refine wp_region_quiet_grown mixed (by kernel_rfl) ?_
          repeat (go_big_quiet_step (fail))
          refine wpQuiet_nil ?_
          intro _ hw'
          obtain ⟨⟨nq, osq⟩, hw''⟩ := hw'
          subst hw''
          go_wp2_with fail
          go_meet
          exact ⟨rfl, HI.out.trans ((GrwU.below ⟨nq, osq, rfl⟩).mono HI.out.size)⟩
        · obtain ⟨j, rfl⟩ : ∃ j, k = j + 1 := ⟨k - 1, by omega⟩
          have d4 : (0 : Int) < ((j + 1 : Nat) : Int) := by omega
          have d5 : (0 : Int) < (j : Int) + 1 := by omega
          have i0 : (0 : Int) ≤ (j : Int) := by omega
          have i2 : (j : Int) < (xs.length : Int) := by omega
          have i3 : IntKind.i64.wrap ((j : Int) + 1 - 1) = (j : Int) := by rw [show (j : Int) + 1 - 1 = (j : Int) by omega]; simp [IntKind.wrap, IntKind.bits, IntKind.signed]; omega
          have i4 : IntKind.i64.wrap (j : Int) = (j : Int) := by simp [IntKind.wrap, IntKind.bits, IntKind.signed]; omega
          obtain ⟨y, hy⟩ : ∃ y, xs[j]? = some y := ⟨_, List.getElem?_eq_getElem (by omega)⟩
          obtain ⟨b', o', e', hcy⟩ := RowN.atk (H5.out.2.below HI.out) hy
          simp only [Option.some.injEq, Addr.mk.injEq, and_true] at e'
          obtain ⟨rfl, rfl⟩ := e'
          have hw := HL.out.wait j x y HS.out hy
          obtain ⟨by0, by1, _⟩ := HL.out.bd j y hy
          have f1 := cell_grown (cell_lt hcy) hcy
          have e1 : IntKind.i64.wrap (x - y) = x - y := by rw [IntKind.wrap_i64]; omega
          have e2 : IntKind.i64.wrap (l.tries + ((j : Int) + 1)) = l.tries + ((j : Int) + 1) := by rw [IntKind.wrap_i64]; omega
          have e3 : IntKind.i64.wrap (3 * (l.tries + ((j : Int) + 1))) = 3 * (l.tries + ((j : Int) + 1)) := by rw [IntKind.wrap_i64]; omega
          have d6 : decide (x - y < 3 * (l.tries + ((j : Int) + 1))) = false := by simp; omega
          clear hcy hy hw
          refine wp_region_quiet_grown mixed (by kernel_rfl) ?_
          repeat (go_big_quiet_step (fail))
          refine wpQuiet_nil ?_
          intro _ hw'
          obtain ⟨⟨nq, osq⟩, hw''⟩ := hw'
          subst hw''
          go_wp2_with fail
          go_meet
          exact ⟨rfl, HI.out.trans ((GrwU.below ⟨nq, osq, rfl⟩).mono HI.out.size)⟩
      case rest =>
        obtain ⟨rfl, hb6⟩ := hcut
        rename World => w6
        have H6 : Hid (Below w5.heap.size w5 w6) := hb6
        clear hb6
        go_wp2
        go_roundw
        case rel => exact ⟨k + 1, by go_num, by omega, H6.out⟩
        case measure => simp [intOf]; omega
    · obtain rfl : k = xs.length := by omega
      have HBw : Hid (Below w.heap.size w wr) := H1.out.1.trans (HBr.out.mono H1.out.1.size)
      clear HI HBr HB H5 HL
      go_wp2_with fail
      refine (drawOutboxTick_any a1 len1 cap1 z1 _ (by omega) (bytesAt_belowL HR.out.2 HBw.out)).mono ?_
      rintro e w7 ⟨ad7, C7, rs, d, rfl, hr7, hsm7, hl7, hb7⟩
      have H7 : Hid (Below w.heap.size w w7 ∧ RowOu w7 (.slice ad7 rs.length C7) rs ∧ ∀ g ∈ rs, SmO g) := ⟨HBw.out.trans (hb7.mono HBw.out.size), hr7, hsm7⟩
      clear hr7 hsm7 hb7 HBw H1 HR
      obtain ⟨pc, hpc⟩ : ∃ pc, pc = (tckO rs d).code := ⟨_, rfl⟩
      have QT : Hid (∀ W, RowOu W (.slice ad7 rs.length C7) rs → Calls Try.prog 15 #[.slice ad7 rs.length C7, .int .i64 d] W fun e w' => ∃ (b1 : Option Addr) (m1 k1 : Nat) (b2 : Option Addr) (m2 k2 : Nat) (b3 : Option Addr) (m3 k3 : Nat), e = .returned (.agg #[.slice b1 m1 k1, .slice b2 m2 k2, .slice b3 m3 k3, .int .i64 pc]) ∧ Below W.heap.size W w') := fun W hW => by
        have := outboxTick_spec (.slice ad7 rs.length C7) rs d W hW
        refine this.mono ?_
        rintro e w' ⟨u, s, q, he, hO, hb⟩
        obtain ⟨x1, x2, x3, x4, x5, x6, rfl, rfl, rfl⟩ := hO.val
        rw [← hpc] at he
        exact ⟨_, _, _, _, _, _, _, _, _, he, hb⟩
      have HPC : Hid (pc = (tckO rs d).code) := hpc
      clear hpc
      go_wp2_with fail
      refine (QT.out _ H7.out.2.1).mono ?_
      rintro e w8 ⟨b1, m1, k1, b2, m2, k2, b3, m3, k3, rfl, hb8⟩
      have hf3 := fld3 b1 b2 b3 m1 m2 m3 k1 k2 k3 pc
      have H8 : Hid (Below w.heap.size w w8 ∧ RowOu w8 (.slice ad7 rs.length C7) rs ∧ ∀ g ∈ rs, SmO g) := ⟨H7.out.1.trans (hb8.mono H7.out.1.size), H7.out.2.1.below hb8, H7.out.2.2⟩
      clear hb8 H7 QT
      by_cases hp0 : pc = 0
      case neg =>
        go_wp2
        go_ret
        exact ⟨rfl, H8.out.1⟩
      obtain rfl := hp0
      obtain ⟨L, M, hLM, hTL⟩ : ∃ L M, ((tckO rs d).list = L ∧ (tckO rs d).lost = M) ∧ TckLaw d rs (tckO rs d) := ⟨_, _, ⟨rfl, rfl⟩, tckLaw HPC.out.symm⟩
      have HT : Hid (L.length + M.length = rs.length ∧ (∀ (i : Nat) (g : OutR), M[i]? = some g → g.tries = 5 ∧ g.due ≤ d) ∧ ousB L = true) := by rw [← hLM.1, ← hLM.2]; exact ⟨hTL.len, hTL.lost, hTL.right⟩
      have QJ : Hid (∀ A C W, RowOu W (.slice A rs.length C) rs → Calls Try.prog 16 #[.slice A rs.length C, .int .i64 d] W fun e w' => ∃ (A1 : Option Addr) (K1 : Nat) (A2 : Option Addr) (n2 K2 : Nat) (A3 : Option Addr) (K3 : Nat), e = .returned (.agg #[.slice A1 L.length K1, .slice A2 n2 K2, .slice A3 M.length K3, .int .i64 0]) ∧ RowOu w' (.slice A1 L.length K1) L ∧ RowOu w' (.slice A3 M.length K3) M ∧ Below W.heap.size W w') := fun A C W hW => by
        have := outboxTick_impl A C rs d W hW (fun c hc => smZ (H8.out.2.2 c hc))
        refine this.mono ?_
        rintro e w' ⟨u, s, q, y1, y2, y3, he, _, _, _, hO, hb⟩
        have h1 := hO.row.li
        have h3 := hO.row.lo
        obtain ⟨x1, x2, x3, x4, x5, x6, rfl, rfl, rfl⟩ := hO.row.val
        rw [hLM.1] at he h1
        rw [hLM.2] at he h3
        rw [hTL.code] at he
        exact ⟨_, _, _, _, _, _, _, he, h1, h3, hb⟩
      have hLl : L.length ≤ 62 := by have := HT.out.1; omega
      have hMl : M.length ≤ 62 := by have := HT.out.1; omega
      clear hLM hTL HPC
      have ha9 : Below w8.heap.size w8 (w8.alloc (.cells #[] 25)) := (Below.refl _ _).alloc (Nat.le_refl _) _
      have hown := own0Ou w8 (Nat.le_refl w8.heap.size)
      have hrow := H8.out.2.1.below ha9
      have HA9 : Hid (Below w8.heap.size w8 (w8.alloc (.cells #[] 25))) := ha9
      clear ha9
      go_wp2_with (first | (at_builtin; refine wpList_copyOuW (by rfl) _ _ rfl rfl rfl hown hrow (by omega) (by simp) ?_; intro A9 C9 w9 hr9 hA9 hc9 hk9 hb9) | fail)
      have b9 : Below w8.heap.size w8 w9 := HA9.out.trans hb9
      have H9 : Hid (Below w.heap.size w w9 ∧ RowOu w9 (.slice A9 rs.length C9) rs) := ⟨H8.out.1.trans (b9.mono H8.out.1.size), hr9⟩
      clear hb9 hr9 b9 hown hrow hk9 hA9 hc9 HA9 hf3
      refine (QJ.out _ _ _ H9.out.2).mono ?_
      rintro e w10 ⟨A1, K1, A2, n2, K2, A3, K3, rfl, hrL, hrM, hb10⟩
      obtain ⟨Y, hY⟩ : ∃ Y, w10.alloc (.cells #[.slice A1 L.length K1, .slice A2 n2 K2, .slice A3 M.length K3, .int .i64 0] 30) = Y := ⟨_, rfl⟩
      obtain ⟨BY, hBY⟩ : ∃ BY, BY = w10.heap.size := ⟨_, rfl⟩
      have haY : Below w10.heap.size w10 Y := by rw [← hY]; exact (Below.refl _ _).alloc (Nat.le_refl _) _
      have hxY : Y.heap[BY]? = some (.cells #[.slice A1 L.length K1, .slice A2 n2 K2, .slice A3 M.length K3, .int .i64 0] 30) := by rw [← hY, hBY]; exact World.alloc_heap_new _ _
      have b10 := H9.out.1.trans (hb10.mono H9.out.1.size)
      have HY : Hid (Below w.heap.size w Y ∧ Y.heap[BY]? = some (.cells #[.slice A1 L.length K1, .slice A2 n2 K2, .slice A3 M.length K3, .int .i64 0] 30) ∧ RowOu Y (.slice A1 L.length K1) L ∧ RowOu Y (.slice A3 M.length K3) M) := ⟨b10.trans (haY.mono b10.size), hxY, hrL.below haY, hrM.below haY⟩
      have HWY : Hid (w10.alloc (.cells #[.slice A1 L.length K1, .slice A2 n2 K2, .slice A3 M.length K3, .int .i64 0] 30) = Y ∧ BY = w10.heap.size) := ⟨hY, hBY⟩
      clear hY hBY haY hxY hrL hrM hb10 b10 QJ H9 H8
      go_upto_region 17 with fail
      try rw [HWY.out.1]
      try rw [← HWY.out.2]
      clear HWY
      obtain ⟨y0, y1, y2, y3⟩ := bx4 HY.out.2.1
      have hq1 : IntKind.i64.wrap ((L.length : Int) + (M.length : Int)) = (L.length : Int) + (M.length : Int) := by rw [IntKind.wrap_i64]; omega
      have hq2 : ((L.length : Int) + (M.length : Int) == (rs.length : Int)) = true := by have := HT.out.1; simp; omega
      have hq3 : ((L.length : Int) + (M.length : Int) != (rs.length : Int)) = false := by have := HT.out.1; simp; omega
      go_wp2_with fail
      clear y0 y1 y2 y3 hq1 hq2 hq3
      go_loopw [13] (fun i wr => ∃ k : Nat, i = .int .i64 (k : Int) ∧ k ≤ M.length ∧ wr = Y) (fun i _ => M.length - (intOf i).toNat)
      case atStart => exact ⟨0, rfl, by omega, rfl⟩
      case round =>
        obtain ⟨k, rfl, hk, rfl⟩ := hrel
        obtain ⟨y0, y1, y2, y3⟩ := bx4 HY.out.2.1
        by_cases hlt : k < M.length
        · have hlt' : (k : Int) < (M.length : Int) := by omega
          obtain ⟨b, o, cap', g, e, hs, ⟨q0, q1, q2, q3, q4⟩, _⟩ := HY.out.2.2.2.at hlt
          simp only [Value.slice.injEq, true_and] at e
          obtain ⟨rfl, rfl⟩ := e
          obtain ⟨ht5, hdd⟩ := HT.out.2.1 k g hs
          rw [ht5] at q3
          have hdd' : ¬ d < g.due := by omega
          clear hs ht5 hdd
          go_wp2
          go_roundw
          case rel => exact ⟨k + 1, by go_num, by omega, trivial⟩
          case measure => simp [intOf]; omega
        · obtain rfl : k = M.length := by omega
          have QR : Hid (∀ v W, RowOu W v L → Calls Try.prog 9 #[v] W fun e w' => e = .returned (.bool true) ∧ Below W.heap.size W w') := fun v W hW => by
            have := outboxRight_impl v L W hW
            rw [HT.out.2.2] at this
            exact this
          have ha11 : Below wr.heap.size wr (wr.alloc (.cells #[] 25)) := (Below.refl _ _).alloc (Nat.le_refl _) _
          have hown := own0Ou wr (Nat.le_refl wr.heap.size)
          have hrow := HY.out.2.2.1.below ha11
          obtain ⟨v0, _, v2, _⟩ := bx4 ((ha11.block _ (Array.getElem?_eq_some_iff.1 HY.out.2.1).1).trans HY.out.2.1)
          have HA11 : Hid (Below wr.heap.size wr (wr.alloc (.cells #[] 25))) := ha11
          clear ha11
          go_wp2_with (first | (at_builtin; refine wpList_copyOuW (by rfl) _ _ rfl rfl rfl hown hrow (by omega) (by simp) ?_; intro A11 C11 w11 hr11 hA11 hc11 hk11 hb11) | fail)
          have b11 : Below wr.heap.size wr w11 := HA11.out.trans hb11
          have H11 : Hid (Below w.heap.size w w11 ∧ RowOu w11 (.slice A11 L.length C11) L) := ⟨HY.out.1.trans (b11.mono HY.out.1.size), hr11⟩
          clear hb11 hr11 b11 hown hrow hk11 hA11 hc11 HA11 y0 y1 y2 y3 v0 v2
          refine (QR.out _ _ H11.out.2).mono ?_
          rintro e w12 ⟨rfl, hb12⟩
          have H12 : Hid (Below w.heap.size w w12) := H11.out.1.trans (hb12.mono H11.out.1.size)
          clear hb12
          go_wp2
          go_ret
          exact ⟨rfl, H12.out⟩
theorem own : ownKnob Try.prog.godebug = none := by kernel_rfl
theorem laidOut : laidOutB Try.prog = true := by kernel_rfl
set_option maxRecDepth 100000 in
theorem lifted (os : Os) (started : os.Started) (H : Type) (enc : TypeId × Value → H) :
    ReturnsInHanded {} Try.checked os 4 .any (Rows.fnResendSpec.pre6 enc Try.prog Try.f4 Rows.fnResendRow.domain false) (Rows.fnResendSpec.post enc Try.prog Try.f4 false true false false) := by
  refine returnsInHanded_of_change (C := Try.checked) own started (by kernel_rfl) Try.func4
    (ChangeSpec.witness6 (enc := enc) (C := Try.checked) false ⟨#[], #[.slice none 0 0, .slice none 0 0], []⟩ 8 (by kernel_rfl) (by kernel_rfl) (by kernel_rfl) (by kernel_rfl)) ?_
  intro W base args ds gs before hval0 hW hcnd _
  have hval : ∀ (j : Nat) t v, Try.f4.params[j]? = some t → args[j]? = some v → Value.okWide Try.prog W .any base t v := hval0
  have hW' := hW
  obtain ⟨p, q, hA0, hV, rfl, hfz, hnd⟩ := hW
  have hA : DataW.TrodAll enc Try.prog W 0 (fun _ => true) true Try.f4.params.toList args.toList ds p := hA0
  rw [Try.params4] at hA hval
  obtain ⟨v0, vs0, d0, ds0, p0, q0, hargs, rfl, rfl, h0, r0⟩ := trodAll_cons hA
  obtain ⟨v1, vs1, d1, ds1, p1, q1, rfl, rfl, rfl, h1, r1⟩ := trodAll_cons r0
  obtain ⟨rfl, rfl, rfl⟩ := trodAll_nil r1
  obtain rfl : args = #[v0, v1] := by cases args; simp_all
  obtain ⟨rfl, rfl⟩ := trodVars_none hV
  obtain ⟨a0, len0, cap0, rfl⟩ := okWide_slice Try.underlying22 (hval 0 22 v0 rfl rfl)
  have k0 := h0
  have lt0 : ∀ x ∈ p0, x.block < W.heap.size := by obtain ⟨m, hm⟩ := k0; exact DataW.trod_lt m _ _ _ hm
  obtain ⟨z0, w0⟩ : ∃ zs, IsRow .u8 W a0 len0 cap0 zs := by
    obtain ⟨fuel, hf⟩ := h0
    rcases open_ints Try.underlying22 Try.underlying5 (by kernel_rfl) hf with ⟨hcs, _⟩ | ⟨x, l, c, zs, hcs, _, hl, hm, hz, _, hcell, hwz⟩
    · simp [Value.cells] at hcs
      obtain ⟨rfl, rfl, rfl⟩ := hcs
      exact ⟨[], .inl ⟨rfl, rfl, rfl, rfl⟩⟩
    · simp [Value.cells] at hcs
      obtain ⟨rfl, rfl, rfl⟩ := hcs
      exact ⟨zs, .inr ⟨_, rfl, hl, hm, by simpa using hz, hcell, hwz⟩⟩
  obtain ⟨a1, len1, cap1, rfl⟩ := okWide_slice Try.underlying22 (hval 1 22 v1 rfl rfl)
  have k1 := h1
  have lt1 : ∀ x ∈ p1, x.block < W.heap.size := by obtain ⟨m, hm⟩ := k1; exact DataW.trod_lt m _ _ _ hm
  obtain ⟨z1, w1⟩ : ∃ zs, IsRow .u8 W a1 len1 cap1 zs := by
    obtain ⟨fuel, hf⟩ := h1
    rcases open_ints Try.underlying22 Try.underlying5 (by kernel_rfl) hf with ⟨hcs, _⟩ | ⟨x, l, c, zs, hcs, _, hl, hm, hz, _, hcell, hwz⟩
    · simp [Value.cells] at hcs
      obtain ⟨rfl, rfl, rfl⟩ := hcs
      exact ⟨[], .inl ⟨rfl, rfl, rfl, rfl⟩⟩
    · simp [Value.cells] at hcs
      obtain ⟨rfl, rfl, rfl⟩ := hcs
      exact ⟨zs, .inr ⟨_, rfl, hl, hm, by simpa using hz, hcell, hwz⟩⟩
  clear hA0 hval0
  refine (walk a0 len0 cap0 z0 a1 len1 cap1 z1 W w0 w1).mono fun e W' ⟨he, bel⟩ => ?_
  subst he
  exact ⟨_, rfl, _, _, _, [], _, [], hW', trodAll_mk1 (shut_bool Try.underlying4 _), (trodAll_cons_mk (Below.trod laidOut (by kernel_rfl) (of_decide_eq_true (by kernel_rfl)) k0 bel lt0) (trodAll_cons_mk (Below.trod laidOut (by kernel_rfl) (of_decide_eq_true (by kernel_rfl)) k1 bel lt1) trodAll_mk0)), rfl, bel.frame _, fun h => by cases h⟩
theorem over : Rows.fnResendRow.holds Try.pinned (OpenSpec.ofChange Rows.fnResendSpec) :=
  OpenClaim.holds_of_wide 4 Try.f4 rfl rfl rfl rfl rfl rfl rfl ⟨rfl, rfl, rfl, rfl, rfl⟩ rfl rfl rfl rfl rfl (by kernel_rfl) Try.func4 (by kernel_rfl)
    (of_decide_eq_true (by kernel_rfl)) (by unfold Func.isWrapper; first | (rw [if_pos (by decide +kernel)]; kernel_rfl) | (rw [if_neg (by decide +kernel)]; exact ⟨rfl, rfl⟩))
    (fun os started H enc _ => lifted os started H enc)
end fnResend
theorem fnResend_holds : Rows.FnResendSaid := fnResend.over
#print axioms fnResend_holds
end Go.Proofs.Ytiakkpglnijapaa
