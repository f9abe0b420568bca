/- Contract of the model's DrawPartnerTake. -/
import Derived.Test.YtbnjieppcojckaaPtL
import Derived.Test.YtbnjieppcojckaaOnceW
namespace Go.Proofs.Ytbnjieppcojckaa
open Go.ChangeShapes Go.WideShapes Go.ChangeAt Go.RowKit
/-- The drawn partner in its box P; the answer's box; the source. -/
structure QF (B P : Nat) (w W : World) (p : Ptn) (v : Value) : Prop where
  src : IsSrc B W
  bel : Below w.heap.size w W
  rb : W.heap[w.heap.size]? = some (.cells #[.string ⟨#[]⟩, .int .i64 0, .int .i64 0, .slice none 0 0] 30)
  box : W.heap[P]? = some (.cells #[.string p.name, .int .i64 p.low, .int .i64 p.next, v] 30)
  ls : ∃ b, B < b ∧ LSn b W v p.seen
  hB : w.heap.size < B
  hP : B < P
  nm : p.name.size ≤ 9223372036854775807
theorem QF.keep {B P : Nat} {w W W' : World} {p : Ptn} {v : Value} (h : QF B P w W p v) (hk : Keep B W W') (hs : IsSrc B W') : QF B P w W' p v := by
  have hB := h.hB
  have hP := h.hP
  have hz := h.bel.size
  obtain ⟨b, hb, hL⟩ := h.ls
  exact ⟨hs, h.bel.trans (hk.below (by omega) (by omega)), (hk.block _ (Array.getElem?_eq_some_iff.1 h.rb).1 (by omega)).trans h.rb, (hk.block _ (Array.getElem?_eq_some_iff.1 h.box).1 (by omega)).trans h.box, ⟨b, hb, hL.keep hk (by omega)⟩, hB, hP, h.nm⟩
theorem QF.below {B P : Nat} {w W W' : World} {p : Ptn} {v : Value} (h : QF B P w W p v) (hb : Below W.heap.size W W') : QF B P w W' p v := h.keep (Keep.of_below hb) (h.src.below (hb.mono h.src.lt))
theorem QF.cells {B P : Nat} {w W : World} {p : Ptn} {v : Value} (h : QF B P w W p v) : W.cell? ⟨P, 0, none⟩ = some (.string p.name) ∧ W.cell? ⟨P, 1, none⟩ = some (.int .i64 p.low) ∧ W.cell? ⟨P, 2, none⟩ = some (.int .i64 p.next) ∧ W.cell? ⟨P, 3, none⟩ = some v := ⟨cell_blkD h.box rfl, cell_blkD h.box rfl, cell_blkD h.box rfl, cell_blkD h.box rfl⟩
theorem QF.rcells {B P : Nat} {w W : World} {p : Ptn} {v : Value} (h : QF B P w W p v) : W.cell? ⟨w.heap.size, 0, none⟩ = some (.string ⟨#[]⟩) ∧ W.cell? ⟨w.heap.size, 1, none⟩ = some (.int .i64 0) ∧ W.cell? ⟨w.heap.size, 2, none⟩ = some (.int .i64 0) ∧ W.cell? ⟨w.heap.size, 3, none⟩ = some (.slice none 0 0) ∧ ∀ o, W.frozen? ⟨w.heap.size, o, none⟩ = false := by
  refine ⟨cell_blkD h.rb rfl, cell_blkD h.rb rfl, cell_blkD h.rb rfl, cell_blkD h.rb rfl, fun o => ?_⟩
  have := h.rb
  simp [World.frozen?, this]
theorem QF.fin {B P : Nat} {w W : World} {p : Ptn} {v : Value} (h : QF B P w W p v) (x0 x1 x2 x3 : Value) : RPt ((((W.setCell ⟨w.heap.size, 0, none⟩ x0).setCell ⟨w.heap.size, 1, none⟩ x1).setCell ⟨w.heap.size, 2, none⟩ x2).setCell ⟨w.heap.size, 3, none⟩ x3) v p ∧ Below w.heap.size w ((((W.setCell ⟨w.heap.size, 0, none⟩ x0).setCell ⟨w.heap.size, 1, none⟩ x1).setCell ⟨w.heap.size, 2, none⟩ x2).setCell ⟨w.heap.size, 3, none⟩ x3) := by
  have hk : Keep w.heap.size W ((((W.setCell ⟨w.heap.size, 0, none⟩ x0).setCell ⟨w.heap.size, 1, none⟩ x1).setCell ⟨w.heap.size, 2, none⟩ x2).setCell ⟨w.heap.size, 3, none⟩ x3) := ((((Keep.refl _ _).setCell _ _).setCell _ _).setCell _ _).setCell _ _
  have hB := h.hB
  obtain ⟨b, hb, hL⟩ := h.ls
  exact ⟨⟨(hL.keep hk (by omega)).row, h.nm⟩, h.bel.trans (hk.below (Nat.le_refl _) h.bel.size)⟩
theorem kp4D {W : World} {b o X : Nat} {v : Value} (h : W.cell? ⟨b, o, none⟩ = some v) (hne : b ≠ X) (x0 x1 x2 x3 : Value) : ((((W.setCell ⟨X, 0, none⟩ x0).setCell ⟨X, 1, none⟩ x1).setCell ⟨X, 2, none⟩ x2).setCell ⟨X, 3, none⟩ x3).cell? ⟨b, o, none⟩ = some v := by
  have e : ∀ (W : World) (i : Nat) (x : Value), (W.setCell ⟨X, i, none⟩ x).cell? ⟨b, o, none⟩ = W.cell? ⟨b, o, none⟩ := fun W i x => World.cell?_of_block (Below.heap_setCell W ⟨X, i, none⟩ x b hne)
  rw [e, e, e, e]
  exact h
theorem four_ints (w : World) (a b c d : Int) (g : Nat) (hg : g = w.heap.size) (i : Nat) (hi : i < 4) : ∃ z, (w.alloc (.cells #[.int .i64 a, .int .i64 b, .int .i64 c, .int .i64 d] 2)).cell? ⟨g, i, none⟩ = some (.int .i64 z) := by
  subst hg
  have h1 := World.alloc_heap_new w (.cells #[.int .i64 a, .int .i64 b, .int .i64 c, .int .i64 d] 2)
  have hc : i = 0 ∨ i = 1 ∨ i = 2 ∨ i = 3 := by omega
  rcases hc with rfl | rfl | rfl | rfl
  · exact ⟨a, cell_blkD h1 rfl⟩
  · exact ⟨b, cell_blkD h1 rfl⟩
  · exact ⟨c, cell_blkD h1 rfl⟩
  · exact ⟨d, cell_blkD h1 rfl⟩
theorem bytesAt_below {w w' : World} {a : Option Addr} {len : Nat} {zs : List Int} (h : BytesAt w a len zs) (hb : Below w.heap.size w w') : BytesAt w' a len zs := by
  intro g
  obtain ⟨b, off, e, hc⟩ := h g
  exact ⟨b, off, e, fun i hi => (hb.cell (p := ⟨b, off + i, none⟩) (cell_lt (hc i hi))).trans (hc i hi)⟩
theorem l01Max_ex (a b : Int) (w : World) : Calls Try.prog 27 #[.int .i64 a, .int .i64 b] w fun e w' => ∃ m : Int, e = .returned (.int .i64 m) ∧ w' = w := (l01Max_any a b w).mono fun _ _ ⟨h1, h2⟩ => ⟨_, h1, h2⟩
set_option maxRecDepth 100000 in
set_option maxHeartbeats 2000000 in
theorem drawsTake : fnTakeOnce.DrawsTake := by
  intro a len cap zs w hl hr
  obtain ⟨W0, hW0⟩ : ∃ W0, w.alloc (.cells #[.string ⟨#[]⟩, .int .i64 0, .int .i64 0, .slice none 0 0] 30) = W0 := ⟨_, rfl⟩
  have hb0 : Below w.heap.size w W0 := by rw [← hW0]; exact (Below.refl _ _).alloc (Nat.le_refl _) _
  have hr0 : W0.heap[w.heap.size]? = some (.cells #[.string ⟨#[]⟩, .int .i64 0, .int .i64 0, .slice none 0 0] 30) := by rw [← hW0]; exact World.alloc_heap_new _ _
  have hs0 : W0.heap.size = w.heap.size + 1 := by rw [← hW0]; simp
  have HR : Hid (BytesAt W0 a len zs) := bytesAt_below hr hb0
  clear hr
  go_enter Try.func8, Try.ntmps8
  go_upto_region 1 with fail
  try rw [hW0]
  clear hW0
  go_wp2_with fail
  refine (source_any a len cap zs _ hl HR.out).mono ?_
  rintro e w1 ⟨rfl, hs1, hb1⟩
  have hz1 := hb1.size
  obtain ⟨B, hB⟩ : ∃ B, B = w.heap.size + 1 := ⟨_, rfl⟩
  rw [hs0, ← hB] at hs1
  have H1 : Hid (IsSrc B w1 ∧ Below w.heap.size w w1 ∧ w1.heap[w.heap.size]? = some (.cells #[.string ⟨#[]⟩, .int .i64 0, .int .i64 0, .slice none 0 0] 30)) := ⟨hs1, hb0.trans (hb1.mono (by omega)), (hb1.block _ (by omega)).trans hr0⟩
  have hB1 := hs1.lt
  clear hs1 hb1 hr0 hb0 HR
  go_upto_region 2 with fail
  rw [← hB]
  have hwB : w.heap.size < B := by omega
  clear hB hz1 hs0
  go_wp2_with fail
  refine (l07Partner_any B _ H1.out.1).mono ?_
  rintro e w2 ⟨p, v, rfl, hp, hf, ⟨bl, hbl, hL⟩, hs2, hk2⟩
  obtain ⟨Av, Cv, hvv⟩ := hL.val
  subst hvv
  have hz2 := hk2.size
  have ha3 : Below w2.heap.size w2 (w2.alloc (.cells #[.string p.name, .int .i64 p.low, .int .i64 p.next, .slice Av p.seen.length Cv] 30)) := (Below.refl _ _).alloc (Nat.le_refl _) _
  have h3 : QF B w2.heap.size w (w2.alloc (.cells #[.string p.name, .int .i64 p.low, .int .i64 p.next, .slice Av p.seen.length Cv] 30)) p (.slice Av p.seen.length Cv) := by
    have hl1 := H1.out.2.1.size
    have hb2 : Below w.heap.size w w2 := H1.out.2.1.trans (hk2.below (by omega) (by omega))
    exact ⟨hs2.below (ha3.mono (by omega)), hb2.trans (ha3.mono hb2.size), (ha3.block _ (by omega)).trans ((hk2.block _ (Array.getElem?_eq_some_iff.1 H1.out.2.2).1 (by omega)).trans H1.out.2.2), World.alloc_heap_new _ _, ⟨bl, by omega, hL.below ha3⟩, by omega, by omega, hp.z_name⟩
  obtain ⟨P, hP⟩ : ∃ P, P = w2.heap.size := ⟨_, rfl⟩
  obtain ⟨W3, hW3⟩ : ∃ W3, w2.alloc (.cells #[.string p.name, .int .i64 p.low, .int .i64 p.next, .slice Av p.seen.length Cv] 30) = W3 := ⟨_, rfl⟩
  rw [hW3, ← hP] at h3
  have H3 : Hid (QF B P w W3 p (.slice Av p.seen.length Cv)) := h3
  obtain ⟨c0, c1, c2, c3⟩ := h3.cells
  have HN : Hid (IsSrc B W3.drew) := h3.src.below (Below.refl _ _).drew
  have hPW : P < W3.heap.size := (Array.getElem?_eq_some_iff.1 h3.box).1
  clear h3 ha3 hs2 hk2 hL hbl hp H1
  go_upto_region 3 with fail
  try rw [hW3]
  try rw [← hP]
  clear hW3 hP
  go_cut [7] from 12 to 17 (fun x wx => ∃ z : Int, x = .int .i64 z ∧ QF B P w wx p (.slice Av p.seen.length Cv))
  case first =>
    go_region_held3 (fun W => W.cell? ⟨P, 1, none⟩ = some (.int .i64 p.low)) (go_keep) ((go_at_call 16; refine (n_any B 70 _ (by omega) (by omega) HN.out).mono ?_; rintro e wa ⟨x, rfl, x0, x1, sa, ka⟩; have qa := H3.out.keep ((Keep.of_below (Below.refl _ _).drew).trans ka) sa; have HA : Hid (QF B P w wa p (.slice Av p.seen.length Cv)) := qa; obtain ⟨y0, y1, y2, y3⟩ := qa.cells; clear qa))
    all_goals (go_wp2_with fail; go_meet)
    all_goals exact ⟨_, rfl, HA.out⟩
  case rest =>
    obtain ⟨z, rfl, hq⟩ := hcut
    rename World => w4
    have H4 : Hid (QF B P w w4 p (.slice Av p.seen.length Cv)) := hq
    clear hq c0 c1 c2 c3 H3 HN hPW
    go_upto_region 4 with fail
    go_wp2_with fail
    refine (one_any B 10 _ (by omega) (by omega) H4.out.src).mono ?_
    rintro e w5 ⟨on, rfl, hs5, hk5⟩
    have H5 : Hid (QF B P w w5 p (.slice Av p.seen.length Cv)) := H4.out.keep hk5 hs5
    clear hs5 hk5 H4
    go_upto_if 19 with fail
    go_cut [7] from 20 to 24 (fun x wx => ∃ z : Int, x = .int .i64 z ∧ QF B P w wx p (.slice Av p.seen.length Cv))
    case first =>
      cases on with
      | false =>
        go_wp2_with fail
        go_meet
        exact ⟨z, rfl, H5.out⟩
      | true =>
        have ha5 : Below w5.heap.size w5 (w5.alloc (.cells #[.int .i64 0, .int .i64 999999, .int .i64 1000000, .int .i64 1] 2)) := (Below.refl _ _).alloc (Nat.le_refl _) _
        have H5a : Hid (QF B P w (w5.alloc (.cells #[.int .i64 0, .int .i64 999999, .int .i64 1000000, .int .i64 1] 2)) p (.slice Av p.seen.length Cv)) := H5.out.below ha5
        have hB5 : B < w5.heap.size := H5.out.src.lt
        clear ha5
        go_wp2_with fail
        refine (n_any B 4 _ (by omega) (by omega) H5a.out.src).mono ?_
        rintro e w6 ⟨x, rfl, x0, x1, s6, k6⟩
        have H6 : Hid (QF B P w w6 p (.slice Av p.seen.length Cv)) := H5a.out.keep k6 s6
        obtain ⟨xn, rfl⟩ : ∃ xn : Nat, x = (xn : Int) := ⟨x.toNat, by omega⟩
        obtain ⟨y, hy⟩ := four_ints w5 0 999999 1000000 1 _ rfl xn (by omega)
        have hy6 := k6.cell hy (by omega)
        clear k6 s6 hy H5a H5
        go_wp2_with fail
        go_meet
        exact ⟨_, rfl, H6.out⟩
    case rest =>
      obtain ⟨z2, rfl, hq⟩ := hcut
      rename World => w6
      have H6 : Hid (QF B P w w6 p (.slice Av p.seen.length Cv)) := hq
      obtain ⟨c0, c1, c2, c3⟩ := hq.cells
      obtain ⟨r0, r1, r2, r3, rf⟩ := hq.rcells
      have hPw : w.heap.size < P := by have := hq.hP; omega
      have HN : Hid (IsSrc B w6.drew) := hq.src.below (Below.refl _ _).drew
      clear hq H5
      go_upto_region 6 with fail
      go_region_held3 (fun W => W.cell? ⟨P, 0, none⟩ = some (.string p.name) ∧ W.cell? ⟨P, 1, none⟩ = some (.int .i64 p.low) ∧ W.cell? ⟨P, 2, none⟩ = some (.int .i64 p.next) ∧ W.cell? ⟨P, 3, none⟩ = some (.slice Av p.seen.length Cv)) (first | go_keep | exact ⟨kp4D v0 (by omega) _ _ _ _, kp4D v1 (by omega) _ _ _ _, kp4D v2 (by omega) _ _ _ _, kp4D v3 (by omega) _ _ _ _⟩) (first | (go_at_call 16; have HAi := HA; refine (n_any B 20 _ (by omega) (by omega) HA.out.src).mono ?_; rintro e wb ⟨y, rfl, yy0, yy1, sb, kb⟩; have qb := HA.out.keep kb sb; have HB : Hid (QF B P w wb p (.slice Av p.seen.length Cv)) := qb; obtain ⟨v0, v1, v2, v3⟩ := qb.cells; obtain ⟨t0, t1, t2, t3, tf⟩ := qb.rcells; clear qb sb kb) | (go_at_call 16; refine (n_any B 15 _ (by omega) (by omega) HN.out).mono ?_; rintro e wa ⟨x, rfl, x0, x1, sa, ka⟩; have qa := H6.out.keep ((Keep.of_below (Below.refl _ _).drew).trans ka) sa; have HA : Hid (QF B P w wa p (.slice Av p.seen.length Cv)) := qa; obtain ⟨y0, y1, y2, y3⟩ := qa.cells; clear qa sa ka) | (go_at_call 27; refine (l01Max_ex 0 _ _).mono ?_; rintro e wc ⟨m, rfl, rfl⟩))
      go_wp2
      obtain ⟨f1, f2⟩ := HB.out.fin (.string p.name) (.int .i64 p.low) (.int .i64 p.next) (.slice Av p.seen.length Cv)
      exact bodyPost_ret (v := .tuple #[.agg #[.string p.name, .int .i64 p.low, .int .i64 p.next, .slice Av p.seen.length Cv], .int .i64 z2, .int .i64 (IntKind.i64.wrap (x - m))]) (by simp [results, Try.results8, go_sem, t0, t1, t2, t3]) rfl ⟨p, _, z2, _, rfl, f1, hf, f2⟩
end Go.Proofs.Ytbnjieppcojckaa
