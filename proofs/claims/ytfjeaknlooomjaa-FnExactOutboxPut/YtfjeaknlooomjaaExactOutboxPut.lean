/- FnExactOutboxPut returns true at every outbox and thing and leaves them as they were: OutboxPut answers as its model, writes into no argument, keeps nothing of one, and its answer owns its memory; no condition. -/
import Derived.Test.YtfjeaknlooomjaaSzOu
import Derived.Test.YtfjeaknlooomjaaToOu
import Derived.Test.YtfjeaknlooomjaaEqOu
import Derived.Test.YtfjeaknlooomjaaOpenOu
import Derived.Test.YtfjeaknlooomjaaEqOo
import Derived.Test.YtfjeaknlooomjaaMkOo
import Derived.Test.YtfjeaknlooomjaaOuPi
import Derived.Test.YtfjeaknlooomjaaOuPs
import Derived.Deep.RegionHeld3
import Derived.Lib.SmallJoins
namespace Go.Proofs.Ytfjeaknlooomjaa
open Go.ChangeShapes Go.WideShapes Go.ChangeAt Go.RowKit Go.Joins
open Go.ChangeMaps (open_string shut_string)
set_option linter.unusedVariables false
namespace fnExactOutboxPut
theorem bdC {rs : List OutR} (h : BdOu 1048576 rs) : ∀ d ∈ rs, d.partner.size ≤ 1048576 ∧ d.text.size ≤ 1048576 := fun d hd => by
  obtain ⟨i, hi⟩ := List.getElem?_of_mem hd
  exact h.2 i d hi
theorem lst2Ou {B : Nat} {W : World} {v : Value} {rs : List OutR} (h : OwnOu B W v rs) (hG : BdOu 1048576 rs) : ∃ b, B ≤ b ∧ b < W.heap.size ∧ v = .slice (some ⟨b, 0, none⟩) rs.length rs.length ∧ LOu b W v rs := by
  obtain ⟨b, f, h1, h2, h3, h4⟩ := h
  have hl := hG.len
  exact ⟨b, h1, h3.lt, h2, ⟨_, _, h2, fun _ => ⟨rfl, _, f, h3, Nat.le_refl _, h4⟩⟩, by omega, fun i g hi => by have := hG.2 i g hi; omega⟩
theorem boxNewP {a b : World} {o : Obj} (h : Below (a.alloc o).heap.size (a.alloc o) b) : b.heap[a.heap.size]? = some o := (h.block a.heap.size (by simp)).trans (World.alloc_heap_new a o)
theorem boxKeep {a b : World} {k : Nat} {o : Obj} (h : Below a.heap.size a b) (hk : a.heap[k]? = some o) : b.heap[k]? = some o := (h.block k (Array.getElem?_eq_some_iff.1 hk).1).trans hk
theorem frz {W : World} {b t : Nat} {xs : Array Value} (h : W.heap[b]? = some (.cells xs t)) : ∀ o, W.frozen? ⟨b, o, none⟩ = false := fun o => by simp [World.frozen?, h]
theorem cell_set {W : World} {b i R j : Nat} {x y : Value} (h : W.cell? ⟨b, i, none⟩ = some x) (hne : b ≠ R) : (W.setCell ⟨R, j, none⟩ y).cell? ⟨b, i, none⟩ = some x := by
  unfold World.cell? at h ⊢
  rw [set_other W b R j y hne]
  exact h
theorem kp4 {W : World} {b i R : Nat} {x : Value} (h : W.cell? ⟨b, i, none⟩ = some x) (hne : b ≠ R) (y0 y1 y2 y3 : Value) : ((((W.setCell ⟨R, 0, none⟩ y0).setCell ⟨R, 1, none⟩ y1).setCell ⟨R, 2, none⟩ y2).setCell ⟨R, 3, none⟩ y3).cell? ⟨b, i, none⟩ = some x := cell_set (cell_set (cell_set (cell_set h hne) hne) hne) hne
theorem no_str {W : World} {b t : Nat} (h : W.heap[b]? = some (.cells #[.slice none 0 0, .slice none 0 0, .slice none 0 0, .int .i64 0] t)) (o : Nat) (x : ByteArray) : W.cell? ⟨b, o, none⟩ ≠ some (.string x) := by
  simp only [World.cell?, h]
  match o with
  | 0 => simp
  | 1 => simp
  | 2 => simp
  | 3 => simp
  | n + 4 => simp
theorem cellB {W W' : World} {b i R : Nat} {x : Value} (hk : ∀ b, b ≠ R → W'.heap[b]? = W.heap[b]?) (hne : b ≠ R) (h : W.cell? ⟨b, i, none⟩ = some x) : W'.cell? ⟨b, i, none⟩ = some x := by
  unfold World.cell? at h ⊢
  rw [hk b hne]
  exact h
theorem rowOuB {W W' : World} {v : Value} {rs : List OutR} {R : Nat} (h : RowOu W v rs) (hno : ∀ o x, W.cell? ⟨R, o, none⟩ ≠ some (.string x)) (hk : ∀ b, b ≠ R → W'.heap[b]? = W.heap[b]?) : RowOu W' v rs := by
  obtain ⟨a, cap, e, hc⟩ := h.shape
  refine ⟨⟨a, cap, e, fun hn => ?_⟩, h.len, h.sizes⟩
  obtain ⟨b, o, ea, hcell⟩ := hc hn
  refine ⟨b, o, ea, fun j g hj => ?_⟩
  obtain ⟨h0, h1, h2, h3, h4⟩ := hcell j g hj
  have hne : b ≠ R := fun e => hno _ _ (e ▸ h0)
  exact ⟨cellB hk hne h0, cellB hk hne h1, cellB hk hne h2, cellB hk hne h3, cellB hk hne h4⟩
theorem rowSeB {W W' : World} {v : Value} {rs : List SenR} {R : Nat} (h : RowSe W v rs) (hno : ∀ o x, W.cell? ⟨R, o, none⟩ ≠ some (.string x)) (hk : ∀ b, b ≠ R → W'.heap[b]? = W.heap[b]?) : RowSe W' v rs := by
  obtain ⟨a, cap, e, hc⟩ := h.shape
  refine ⟨⟨a, cap, e, fun hn => ?_⟩, h.len, h.sizes⟩
  obtain ⟨b, o, ea, hcell⟩ := hc hn
  refine ⟨b, o, ea, fun j g hj => ?_⟩
  obtain ⟨h0, h1, h2⟩ := hcell j g hj
  have hne : b ≠ R := fun e => hno _ _ (e ▸ h0)
  exact ⟨cellB hk hne h0, cellB hk hne h1, cellB hk hne h2⟩
theorem rset4 {W : World} {u s l : Value} {P : OOu} {R t : Nat} (h : ROo W u s l P) (hR : W.heap[R]? = some (.cells #[.slice none 0 0, .slice none 0 0, .slice none 0 0, .int .i64 0] t)) (y0 y1 y2 y3 : Value) : ROo ((((W.setCell ⟨R, 0, none⟩ y0).setCell ⟨R, 1, none⟩ y1).setCell ⟨R, 2, none⟩ y2).setCell ⟨R, 3, none⟩ y3) u s l P := by
  have hk : ∀ b, b ≠ R → ((((W.setCell ⟨R, 0, none⟩ y0).setCell ⟨R, 1, none⟩ y1).setCell ⟨R, 2, none⟩ y2).setCell ⟨R, 3, none⟩ y3).heap[b]? = W.heap[b]? := fun b hb => by
    rw [set_other _ _ _ _ _ hb, set_other _ _ _ _ _ hb, set_other _ _ _ _ _ hb, set_other _ _ _ _ _ hb]
  exact ⟨rowOuB h.li (no_str hR) hk, rowSeB h.se (no_str hR) hk, rowOuB h.lo (no_str hR) hk⟩
set_option maxRecDepth 20000 in
set_option maxHeartbeats 32000000 in
theorem walk (u : Value) (rs : List OutR) (c : OutR) (w : World) (h : RowOu w u rs) (hc : c.partner.size ≤ 9223372036854775807 ∧ c.text.size ≤ 9223372036854775807) :
    Calls Try.prog 4 #[u, .agg #[.string c.partner, .int .i64 c.number, .string c.text, .int .i64 c.tries, .int .i64 c.due]] w fun e w' => e = .returned (.bool true) ∧ Below w.heap.size w w' := by
  obtain ⟨A, cap, rfl⟩ := h.val
  have hlen := h.len
  obtain ⟨W0, hW0⟩ : ∃ W0, w.alloc (.cells #[.string c.partner, .int .i64 c.number, .string c.text, .int .i64 c.tries, .int .i64 c.due] 30) = W0 := ⟨_, rfl⟩
  have hb0 : Below w.heap.size w W0 := by rw [← hW0]; exact (Below.refl _ _).alloc (Nat.le_refl _) _
  have hbx0 : W0.heap[w.heap.size]? = some (.cells #[.string c.partner, .int .i64 c.number, .string c.text, .int .i64 c.tries, .int .i64 c.due] 30) := by rw [← hW0]; exact World.alloc_heap_new _ _
  obtain ⟨B, hB⟩ : ∃ B, B = w.heap.size := ⟨_, rfl⟩
  rw [← hB] at hbx0
  have H0 : Hid (∀ W, Below W0.heap.size W0 W → RowOu W (.slice A rs.length cap) rs) := fun W hW => (h.below hb0).below hW
  have HW : Hid (Below w.heap.size w W0) := hb0
  have HC : Hid (∀ W, Below W0.heap.size W0 W → W.cell? ⟨B, 0, none⟩ = some (.string c.partner) ∧ W.cell? ⟨B, 1, none⟩ = some (.int .i64 c.number) ∧ W.cell? ⟨B, 2, none⟩ = some (.string c.text) ∧ W.cell? ⟨B, 3, none⟩ = some (.int .i64 c.tries) ∧ W.cell? ⟨B, 4, none⟩ = some (.int .i64 c.due)) := fun W hW => box5 ((hW.block _ (Array.getElem?_eq_some_iff.1 hbx0).1).trans hbx0)
  have HZ : Hid (c.partner.size ≤ 9223372036854775807 ∧ c.text.size ≤ 9223372036854775807) := hc
  clear h hb0 hbx0 hc
  go_enter Try.func4, Try.ntmps4
  go_upto_region 2 with fail
  try rw [hW0]
  try rw [← hB]
  clear hW0 hB
  go_wp2_with fail
  refine (szOus_any _ rs 1048576 _ (H0.out _ (Below.refl _ _)) (by omega)).mono ?_
  rintro e w1 ⟨r, rfl, hr, hb1⟩
  have H1 : Hid (Below W0.heap.size W0 w1) := hb1
  clear hb1
  rcases hr with rfl | ⟨g0, g1, hG⟩
  · go_wp2
    go_ret
    exact ⟨rfl, HW.out.trans ((H1.out).mono HW.out.size)⟩
  have g0' : ¬ r < 0 := by omega
  have HG : Hid (BdOu 1048576 rs) := BdOu.mono hG (by omega)
  have hrl : rs.length ≤ 1048576 := HG.out.len
  clear hG
  obtain ⟨c0, c1, c2, c3, c4⟩ := HC.out _ H1.out
  go_wp2_with fail
  refine (szOu_any c r _ HZ.out ⟨g0, by omega⟩).mono ?_
  rintro e w1b ⟨r2, rfl, hr2, hb1b⟩
  have H1b : Hid (Below W0.heap.size W0 w1b) := H1.out.trans (hb1b.mono H1.out.size)
  clear hb1b c0 c1 c2 c3 c4
  rcases hr2 with rfl | ⟨g2, g3, hG2⟩
  · go_wp2
    go_ret
    exact ⟨rfl, HW.out.trans ((H1b.out).mono HW.out.size)⟩
  have g2' : ¬ r2 < 0 := by omega
  have HB : Hid (c.partner.size ≤ 1048576 ∧ c.text.size ≤ 1048576) := by
    refine ⟨?_, ?_⟩ <;> omega
  clear hG2
  obtain ⟨P, hP⟩ : ∃ P, P = putO rs c := ⟨_, rfl⟩
  have hPL : P.list.length ≤ 1048577 ∧ P.sent.length ≤ 1048577 ∧ P.lost.length ≤ 1048577 := by rw [hP]; exact ⟨by have := putO_len rs c; omega, by rw [(putO_rest rs c).1]; simp, by rw [(putO_rest rs c).2]; simp⟩
  obtain ⟨hP1, hP2, hP3⟩ := hPL
  have HQS : Hid (∀ W b, RowOu W (.slice (some ⟨b, 0, none⟩) rs.length rs.length) rs → Calls Try.prog 14 #[.slice (some ⟨b, 0, none⟩) rs.length rs.length, .agg #[.string c.partner, .int .i64 c.number, .string c.text, .int .i64 c.tries, .int .i64 c.due]] W fun e w' => AnsS W P e w') := fun W b hW => by rw [hP]; exact (outboxPut_spec _ rs c W hW HZ.out).mono fun _ _ h => ansS_of (putO_rest rs c) h
  have HQI : Hid (∀ W b, RowOu W (.slice (some ⟨b, 0, none⟩) rs.length rs.length) rs → Calls Try.prog 16 #[.slice (some ⟨b, 0, none⟩) rs.length rs.length, .agg #[.string c.partner, .int .i64 c.number, .string c.text, .int .i64 c.tries, .int .i64 c.due]] W fun e w' => AnsI W P e w') := fun W b hW => by rw [hP]; exact (outboxPut_impl _ _ rs c W hW (bdC HG.out) HB.out).mono fun _ _ h => ansI_of (putO_rest rs c) h
  clear hP
  go_upto_region 8 with fail
  go_cut [6] from 23 to 27 (fun s wx => ∃ (BX : Nat) (s1 : Option Addr) (sc1 : Nat) (s2 : Option Addr) (sc2 : Nat) (s3 : Option Addr) (sc3 : Nat), s = .pointer (some ⟨BX, 0, none⟩) ∧ wx.heap[BX]? = some (.cells #[.slice s1 P.list.length sc1, .slice s2 P.sent.length sc2, .slice s3 P.lost.length sc3, .int .i64 P.code] 34) ∧ ROo wx (.slice s1 P.list.length sc1) (.slice s2 P.sent.length sc2) (.slice s3 P.lost.length sc3) P ∧ Below W0.heap.size W0 wx)
  case first =>
    obtain ⟨c0, c1, c2, c3, c4⟩ := HC.out _ H1b.out
    obtain ⟨cc0, cc1, cc2, cc3, cc4⟩ := HC.out (w1b.alloc (.cells #[.slice none 0 0, .slice none 0 0, .slice none 0 0, .int .i64 0] 34)) (H1b.out.alloc H1b.out.size _)
    have hBl : B < w1b.heap.size := cell_lt c0
    go_region_held3 (fun W => W.cell? ⟨B, 0, none⟩ = some (.string c.partner) ∧ W.cell? ⟨B, 1, none⟩ = some (.int .i64 c.number) ∧ W.cell? ⟨B, 2, none⟩ = some (.string c.text) ∧ W.cell? ⟨B, 3, none⟩ = some (.int .i64 c.tries) ∧ W.cell? ⟨B, 4, none⟩ = some (.int .i64 c.due)) (first | go_keep | exact ⟨kp4 v0 (by omega) _ _ _ _, kp4 v1 (by omega) _ _ _ _, kp4 v2 (by omega) _ _ _ _, kp4 v3 (by omega) _ _ _ _, kp4 v4 (by omega) _ _ _ _⟩) (first | (go_at_call 10; refine (toOus_any _ rs _ (H0.out _ (H1b.out.trans ((by with_reducible first | exact (Below.refl _ _).drew | exact ((Below.refl _ _).alloc (Nat.le_refl _) _).drew : Below w1b.heap.size w1b _).mono H1b.out.size))) HG.out).mono ?_; rintro e wa ⟨va, rfl, ra, hba⟩; have ba : Below w1b.heap.size w1b wa := (by with_reducible first | exact hba | exact undrewM hba | exact unallocM hba | exact unallocM (undrewM hba)); obtain ⟨bq, fq, hqg, rfl, hqq, hqf⟩ := id ra; have Ra := ra.row HG.out; obtain ⟨a0, a1, a2, a3, a4⟩ := HC.out wa (H1b.out.trans (ba.mono H1b.out.size)); obtain ⟨aa0, aa1, aa2, aa3, aa4⟩ := HC.out (wa.alloc (.cells #[.slice none 0 0, .slice none 0 0, .slice none 0 0, .int .i64 0] 34)) (H1b.out.trans ((ba.alloc ba.size _).mono H1b.out.size)); have za := ba.size; (try (with_reducible have kx0 := boxNewN hba)); clear hba ra hqg hqq hqf; try dsimp only) | (go_at_call 15; refine (toOu_any c _).mono ?_; rintro e wb ⟨rfl, hbb⟩; have bw : Below wa.heap.size wa wb := (by with_reducible first | exact hbb | exact unallocM hbb); have bb : Below w1b.heap.size w1b wb := ba.trans (bw.mono ba.size); have Rb := Ra.below bw; obtain ⟨b0, b1, b2, b3, b4⟩ := HC.out wb (H1b.out.trans (bb.mono H1b.out.size)); obtain ⟨bb0, bb1, bb2, bb3, bb4⟩ := HC.out (wb.alloc (.cells #[.slice none 0 0, .slice none 0 0, .slice none 0 0, .int .i64 0] 34)) (H1b.out.trans ((bb.alloc bb.size _).mono H1b.out.size)); have zb := bw.size; (try (with_reducible have kx1 := boxNewP hbb)); (try (have kx0b := boxKeep bw kx0)); clear hbb; try dsimp only) | (go_at_call 14; refine (HQS.out _ _ (by with_reducible first | exact Rb | exact Rb.below ((Below.refl _ _).alloc (Nat.le_refl _) _))).mono ?_; rintro e w3 hA3; obtain ⟨us, ss, ls, rfl, hr3, hb3⟩ := hA3; obtain ⟨s1, sc1, s2, sc2, s3, sc3, rfl, rfl, rfl⟩ := hr3.val; have bv : Below wb.heap.size wb w3 := (by with_reducible first | exact hb3 | exact unallocM hb3); have b3 : Below w1b.heap.size w1b w3 := bb.trans (bv.mono bb.size); obtain ⟨v0, v1, v2, v3, v4⟩ := HC.out w3 (H1b.out.trans (b3.mono H1b.out.size)); obtain ⟨vv0, vv1, vv2, vv3, vv4⟩ := HC.out (w3.alloc (.cells #[.slice none 0 0, .slice none 0 0, .slice none 0 0, .int .i64 0] 34)) (H1b.out.trans ((b3.alloc b3.size _).mono H1b.out.size)); have zv := bv.size; (try (with_reducible have kx2 := boxNewP hb3)); (try (have kx1c := boxKeep bv kx1)); (try (have kx0c := boxKeep bv kx0b)); (try (have zz := bx4 kx2; obtain ⟨z0, z1, z2, z3⟩ := zz; have hfz := frz kx2)); (try (have zz := bx4 kx1c; obtain ⟨z0, z1, z2, z3⟩ := zz; have hfz := frz kx1c)); (try (have zz := bx4 kx0c; obtain ⟨z0, z1, z2, z3⟩ := zz; have hfz := frz kx0c)); clear hb3; try dsimp only) | fail)
    all_goals (go_wp2_with fail; go_meet)
    all_goals first | (have _h := kx0c; exact ⟨w1b.heap.size, s1, sc1, s2, sc2, s3, sc3, rfl, st4 kx0c, rset4 hr3 kx0c _ _ _ _, H1b.out.trans (((((b3.setCell (by show w1b.heap.size ≤ w1b.heap.size; omega) _).setCell (by show w1b.heap.size ≤ w1b.heap.size; omega) _).setCell (by show w1b.heap.size ≤ w1b.heap.size; omega) _).setCell (by show w1b.heap.size ≤ w1b.heap.size; omega) _).mono H1b.out.size)⟩) | (have _h := kx1c; exact ⟨wa.heap.size, s1, sc1, s2, sc2, s3, sc3, rfl, st4 kx1c, rset4 hr3 kx1c _ _ _ _, H1b.out.trans (((((b3.setCell (by show w1b.heap.size ≤ wa.heap.size; omega) _).setCell (by show w1b.heap.size ≤ wa.heap.size; omega) _).setCell (by show w1b.heap.size ≤ wa.heap.size; omega) _).setCell (by show w1b.heap.size ≤ wa.heap.size; omega) _).mono H1b.out.size)⟩) | (have _h := kx2; exact ⟨wb.heap.size, s1, sc1, s2, sc2, s3, sc3, rfl, st4 kx2, rset4 hr3 kx2 _ _ _ _, H1b.out.trans (((((b3.setCell (by show w1b.heap.size ≤ wb.heap.size; omega) _).setCell (by show w1b.heap.size ≤ wb.heap.size; omega) _).setCell (by show w1b.heap.size ≤ wb.heap.size; omega) _).setCell (by show w1b.heap.size ≤ wb.heap.size; omega) _).mono H1b.out.size)⟩) | exact ⟨w3.heap.size, s1, sc1, s2, sc2, s3, sc3, rfl, World.alloc_heap_new _ _, hr3.below ((Below.refl _ _).alloc (Nat.le_refl _) _), H1b.out.trans ((b3.alloc b3.size _).mono H1b.out.size)⟩ | fail
  case rest =>
  obtain ⟨BW, s1, sc1, s2, sc2, s3, sc3, rfl, hx4, hr4, hb4⟩ := hcut
  rename World => W4
  have H4 : Hid (Below W0.heap.size W0 W4 ∧ ROo W4 (.slice s1 P.list.length sc1) (.slice s2 P.sent.length sc2) (.slice s3 P.lost.length sc3) P ∧ W4.heap[BW]? = some (.cells #[.slice s1 P.list.length sc1, .slice s2 P.sent.length sc2, .slice s3 P.lost.length sc3, .int .i64 P.code] 34)) := ⟨hb4, hr4, hx4⟩
  clear hb4 hr4 hx4
  go_wp2_with fail
  refine (toOus_any _ rs _ (H0.out _ H4.out.1) HG.out).mono ?_
  rintro e w5 ⟨v5, rfl, r5, hb5⟩
  obtain ⟨bX, lx, hx5, rfl, L5⟩ := lst2Ou r5 HG.out
  have H5 : Hid (Below W4.heap.size W4 w5 ∧ LOu bX w5 (.slice (some ⟨bX, 0, none⟩) rs.length rs.length) rs) := ⟨hb5, L5⟩
  clear hb5 r5 L5
  obtain ⟨c0, c1, c2, c3, c4⟩ := HC.out _ (H4.out.1.trans (H5.out.1.mono H4.out.1.size))
  go_wp2_with fail
  refine (toOu_any c _).mono ?_
  rintro e w5b ⟨rfl, hb5b⟩
  have H5b : Hid (Below W4.heap.size W4 w5b ∧ LOu bX w5b (.slice (some ⟨bX, 0, none⟩) rs.length rs.length) rs) := ⟨H5.out.1.trans (hb5b.mono H5.out.1.size), H5.out.2.below hb5b⟩
  have hx5b : bX < w5b.heap.size := Nat.lt_of_lt_of_le hx5 hb5b.size
  clear hb5b c0 c1 c2 c3 c4 hx5
  go_wp2_with fail
  refine (HQI.out _ _ H5b.out.2.row).mono ?_
  rintro e w6 hA6
  obtain ⟨ug, sg, lg, d1, d2, d3, rfl, hd1, hd2, hd3, hL6, hb6⟩ := hA6
  obtain ⟨g1, gc1, g2, gc2, g3, gc3, rfl, rfl, rfl⟩ := hL6.row.val
  obtain ⟨W7, hW7⟩ : ∃ W7, w6.alloc (.cells #[.slice g1 P.list.length gc1, .slice g2 P.sent.length gc2, .slice g3 P.lost.length gc3, .int .i64 P.code] 34) = W7 := ⟨_, rfl⟩
  obtain ⟨BG, hBG⟩ : ∃ BG, BG = w6.heap.size := ⟨_, rfl⟩
  have ha7 : Below w6.heap.size w6 W7 := by rw [← hW7]; exact (Below.refl _ _).alloc (Nat.le_refl _) _
  have hx7 : W7.heap[BG]? = some (.cells #[.slice g1 P.list.length gc1, .slice g2 P.sent.length gc2, .slice g3 P.lost.length gc3, .int .i64 P.code] 34) := by rw [← hW7, hBG]; exact World.alloc_heap_new _ _
  have B6 : Below W4.heap.size W4 w6 := H5b.out.1.trans (hb6.mono H5b.out.1.size)
  have hs45 := H5b.out.1.size
  have hgB : ∀ k, blkO d1 d2 d3 P k → w5b.heap.size ≤ k ∧ k < BG := fun k hk => by
    have h1 := hL6.blk_lt hk
    rcases hk with ⟨rfl, _⟩ | ⟨rfl, _⟩ | ⟨rfl, _⟩ <;> omega
  have hXG : bX < BG := by have := hb6.size; omega
  have HN : Hid ((∀ k, blkO d1 d2 d3 P k → W4.heap.size ≤ k ∧ k ≠ BG ∧ k ≠ bX) ∧ W4.heap.size ≤ bX ∧ bX ≠ BG ∧ BW ≠ BG) := ⟨fun k hk => by have := hgB k hk; omega, lx, by omega, by have := (Array.getElem?_eq_some_iff.1 H4.out.2.2).1; omega⟩
  have H7 : Hid (Below W4.heap.size W4 W7 ∧ LOu bX W7 (.slice (some ⟨bX, 0, none⟩) rs.length rs.length) rs ∧ LOo d1 d2 d3 W7 (.slice g1 P.list.length gc1) (.slice g2 P.sent.length gc2) (.slice g3 P.lost.length gc3) P ∧ W7.heap[BG]? = some (.cells #[.slice g1 P.list.length gc1, .slice g2 P.sent.length gc2, .slice g3 P.lost.length gc3, .int .i64 P.code] 34)) := ⟨B6.trans (ha7.mono B6.size), (H5b.out.2.below hb6).below ha7, hL6.below ha7, hx7⟩
  go_upto_region 11 with fail
  try rw [hW7]
  try rw [← hBG]
  clear hW7 hBG ha7 hx7 B6 hL6 hb6 hd1 hd2 hd3 hgB hXG hs45 lx hx5b H5 H5b
  have HWB : Hid (∀ W, Below W4.heap.size W4 W → W.heap[BW]? = some (.cells #[.slice s1 P.list.length sc1, .slice s2 P.sent.length sc2, .slice s3 P.lost.length sc3, .int .i64 P.code] 34) ∧ ROo W (.slice s1 P.list.length sc1) (.slice s2 P.sent.length sc2) (.slice s3 P.lost.length sc3) P) := fun W hW => ⟨(hW.block _ (Array.getElem?_eq_some_iff.1 H4.out.2.2).1).trans H4.out.2.2, H4.out.2.1.below hW⟩
  have H7' : Hid (Below W4.heap.size W4 W7 ∧ LOo d1 d2 d3 W7 (.slice g1 P.list.length gc1) (.slice g2 P.sent.length gc2) (.slice g3 P.lost.length gc3) P ∧ W7.heap[BG]? = some (.cells #[.slice g1 P.list.length gc1, .slice g2 P.sent.length gc2, .slice g3 P.lost.length gc3, .int .i64 P.code] 34) ∧ LOu bX W7 (.slice (some ⟨bX, 0, none⟩) rs.length rs.length) rs) := ⟨H7.out.1, H7.out.2.2.1, H7.out.2.2.2, H7.out.2.1⟩
  clear H7
  obtain ⟨x0, x1, x2, x3⟩ := bx4 H7'.out.2.2.1
  obtain ⟨y0, y1, y2, y3⟩ := bx4 (HWB.out W7 H7'.out.1).1
  go_wp2_with fail
  refine (eqOo_any P _ _ _ _ _ _ _ H7'.out.2.1.row (HWB.out W7 H7'.out.1).2).mono ?_
  rintro e w8 ⟨rfl, hb8⟩
  have H8 : Hid (Below W4.heap.size W4 w8 ∧ LOo d1 d2 d3 w8 (.slice g1 P.list.length gc1) (.slice g2 P.sent.length gc2) (.slice g3 P.lost.length gc3) P ∧ w8.heap[BG]? = some (.cells #[.slice g1 P.list.length gc1, .slice g2 P.sent.length gc2, .slice g3 P.lost.length gc3, .int .i64 P.code] 34) ∧ LOu bX w8 (.slice (some ⟨bX, 0, none⟩) rs.length rs.length) rs) := ⟨H7'.out.1.trans (hb8.mono H7'.out.1.size), H7'.out.2.1.below hb8, (hb8.block _ (Array.getElem?_eq_some_iff.1 H7'.out.2.2.1).1).trans H7'.out.2.2.1, H7'.out.2.2.2.below hb8⟩
  clear hb8 x0 x1 x2 x3 y0 y1 y2 y3 H7'
  go_wp2_with fail
  refine (toOus_any _ rs _ (H0.out _ (H4.out.1.trans (H8.out.1.mono H4.out.1.size))) HG.out).mono ?_
  rintro e w9 ⟨v9, rfl, r9, hb9⟩
  have H9 : Hid (Below W4.heap.size W4 w9 ∧ LOo d1 d2 d3 w9 (.slice g1 P.list.length gc1) (.slice g2 P.sent.length gc2) (.slice g3 P.lost.length gc3) P ∧ w9.heap[BG]? = some (.cells #[.slice g1 P.list.length gc1, .slice g2 P.sent.length gc2, .slice g3 P.lost.length gc3, .int .i64 P.code] 34) ∧ LOu bX w9 (.slice (some ⟨bX, 0, none⟩) rs.length rs.length) rs) := ⟨H8.out.1.trans (hb9.mono H8.out.1.size), H8.out.2.1.below hb9, (hb9.block _ (Array.getElem?_eq_some_iff.1 H8.out.2.2.1).1).trans H8.out.2.2.1, H8.out.2.2.2.below hb9⟩
  have R9 : Hid (RowOu w9 v9 rs) := r9.row HG.out
  clear hb9 r9 H8
  go_wp2_with fail
  refine (eqOus_any _ _ _ _ H9.out.2.2.2.row R9.out).mono ?_
  rintro e wA ⟨rfl, hbA⟩
  have HA : Hid (Below W4.heap.size W4 wA ∧ LOo d1 d2 d3 wA (.slice g1 P.list.length gc1) (.slice g2 P.sent.length gc2) (.slice g3 P.lost.length gc3) P ∧ wA.heap[BG]? = some (.cells #[.slice g1 P.list.length gc1, .slice g2 P.sent.length gc2, .slice g3 P.lost.length gc3, .int .i64 P.code] 34) ∧ LOu bX wA (.slice (some ⟨bX, 0, none⟩) rs.length rs.length) rs) := ⟨H9.out.1.trans (hbA.mono H9.out.1.size), H9.out.2.1.below hbA, (hbA.block _ (Array.getElem?_eq_some_iff.1 H9.out.2.2.1).1).trans H9.out.2.2.1, H9.out.2.2.2.below hbA⟩
  clear hbA H9 R9
  go_wp2_with fail
  refine (markOu_p bX _ rs 1 _ HA.out.2.2.2 ⟨by omega, by omega⟩).mono ?_
  rintro e wB ⟨rfl, lB, kB⟩
  have HBB : Hid (Below W4.heap.size W4 wB ∧ LOo d1 d2 d3 wB (.slice g1 P.list.length gc1) (.slice g2 P.sent.length gc2) (.slice g3 P.lost.length gc3) P ∧ wB.heap[BG]? = some (.cells #[.slice g1 P.list.length gc1, .slice g2 P.sent.length gc2, .slice g3 P.lost.length gc3, .int .i64 P.code] 34)) := ⟨HA.out.1.trans (kB.below (fun k hk => by have := HN.out.2.1; have := hk.1; omega) HA.out.1.size), HA.out.2.1.keepP kB (fun k hk hs => (HN.out.1 k hk).2.2 hs.1), (kB.block _ (Array.getElem?_eq_some_iff.1 HA.out.2.2.1).1 (fun hs => HN.out.2.2.1 hs.1.symm)).trans HA.out.2.2.1⟩
  have gk : ¬ ((1 + rs.length * 5 : Nat) : Int) < 0 := by omega
  clear lB kB HA
  obtain ⟨x0, x1, x2, x3⟩ := bx4 HBB.out.2.2
  obtain ⟨y0, y1, y2, y3⟩ := bx4 (HWB.out wB HBB.out.1).1
  go_wp2_with fail
  refine (eqOo_any P _ _ _ _ _ _ _ HBB.out.2.1.row (HWB.out wB HBB.out.1).2).mono ?_
  rintro e wD ⟨rfl, hbD⟩
  have HD : Hid (Below W4.heap.size W4 wD ∧ LOo d1 d2 d3 wD (.slice g1 P.list.length gc1) (.slice g2 P.sent.length gc2) (.slice g3 P.lost.length gc3) P ∧ wD.heap[BG]? = some (.cells #[.slice g1 P.list.length gc1, .slice g2 P.sent.length gc2, .slice g3 P.lost.length gc3, .int .i64 P.code] 34)) := ⟨HBB.out.1.trans (hbD.mono HBB.out.1.size), HBB.out.2.1.below hbD, (hbD.block _ (Array.getElem?_eq_some_iff.1 HBB.out.2.2).1).trans HBB.out.2.2⟩
  clear hbD x0 x1 x2 x3 y0 y1 y2 y3 HBB gk
  obtain ⟨x0, x1, x2, x3⟩ := bx4 HD.out.2.2
  go_wp2_with fail
  refine (markOo_any d1 d2 d3 _ _ _ P 1 _ HD.out.2.1 ⟨by omega, by omega⟩).mono ?_
  rintro e wE ⟨rfl, lE, kE⟩
  have HE : Hid (Below W4.heap.size W4 wE ∧ LOo d1 d2 d3 wE (.slice g1 P.list.length gc1) (.slice g2 P.sent.length gc2) (.slice g3 P.lost.length gc3) (mkOo 1 P) ∧ wE.heap[BG]? = some (.cells #[.slice g1 P.list.length gc1, .slice g2 P.sent.length gc2, .slice g3 P.lost.length gc3, .int .i64 P.code] 34)) := ⟨HD.out.1.trans (kE.below (fun k hk => (HN.out.1 k hk).1) HD.out.1.size), lE, (kE.block _ (Array.getElem?_eq_some_iff.1 HD.out.2.2).1 (fun hs => (HN.out.1 _ hs).2.1 rfl)).trans HD.out.2.2⟩
  clear lE kE x0 x1 x2 x3 HD
  obtain ⟨x0, x1, x2, x3⟩ := bx4 HE.out.2.2
  go_wp2_with fail
  refine (heldOo_any _ _ _ P 1 _ HE.out.2.1.row ⟨by omega, by omega⟩).mono ?_
  rintro e wF ⟨rfl, hbF⟩
  have HF : Hid (Below W4.heap.size W4 wF ∧ LOo d1 d2 d3 wF (.slice g1 P.list.length gc1) (.slice g2 P.sent.length gc2) (.slice g3 P.lost.length gc3) (mkOo 1 P) ∧ wF.heap[BG]? = some (.cells #[.slice g1 P.list.length gc1, .slice g2 P.sent.length gc2, .slice g3 P.lost.length gc3, .int .i64 P.code] 34)) := ⟨HE.out.1.trans (hbF.mono HE.out.1.size), HE.out.2.1.below hbF, (hbF.block _ (Array.getElem?_eq_some_iff.1 HE.out.2.2).1).trans HE.out.2.2⟩
  have gq : ¬ ((1 + P.list.length * 5 + P.sent.length * 3 + P.lost.length * 5 : Nat) : Int) < 0 := by omega
  clear hbF x0 x1 x2 x3 HE
  have HFB : Hid (Below W0.heap.size W0 wF) := H4.out.1.trans (HF.out.1.mono H4.out.1.size)
  go_upto_region 27 with fail
  go_cut [12] from 65 to 69 (fun s wx => ∃ (BX : Nat) (h1 : Option Addr) (hc1 : Nat) (h2 : Option Addr) (hc2 : Nat) (h3 : Option Addr) (hc3 : Nat), s = .pointer (some ⟨BX, 0, none⟩) ∧ wx.heap[BX]? = some (.cells #[.slice h1 P.list.length hc1, .slice h2 P.sent.length hc2, .slice h3 P.lost.length hc3, .int .i64 P.code] 34) ∧ ROo wx (.slice h1 P.list.length hc1) (.slice h2 P.sent.length hc2) (.slice h3 P.lost.length hc3) P ∧ Below wF.heap.size wF wx)
  case first =>
    obtain ⟨c0, c1, c2, c3, c4⟩ := HC.out _ HFB.out
    obtain ⟨cc0, cc1, cc2, cc3, cc4⟩ := HC.out (wF.alloc (.cells #[.slice none 0 0, .slice none 0 0, .slice none 0 0, .int .i64 0] 34)) (HFB.out.alloc HFB.out.size _)
    have hBl : B < wF.heap.size := cell_lt c0
    go_region_held3 (fun W => W.cell? ⟨B, 0, none⟩ = some (.string c.partner) ∧ W.cell? ⟨B, 1, none⟩ = some (.int .i64 c.number) ∧ W.cell? ⟨B, 2, none⟩ = some (.string c.text) ∧ W.cell? ⟨B, 3, none⟩ = some (.int .i64 c.tries) ∧ W.cell? ⟨B, 4, none⟩ = some (.int .i64 c.due)) (first | go_keep | exact ⟨kp4 v0 (by omega) _ _ _ _, kp4 v1 (by omega) _ _ _ _, kp4 v2 (by omega) _ _ _ _, kp4 v3 (by omega) _ _ _ _, kp4 v4 (by omega) _ _ _ _⟩) (first | (go_at_call 10; refine (toOus_any _ rs _ (H0.out _ (HFB.out.trans ((by with_reducible first | exact (Below.refl _ _).drew | exact ((Below.refl _ _).alloc (Nat.le_refl _) _).drew : Below wF.heap.size wF _).mono HFB.out.size))) HG.out).mono ?_; rintro e wa ⟨va, rfl, ra, hba⟩; have ba : Below wF.heap.size wF wa := (by with_reducible first | exact hba | exact undrewM hba | exact unallocM hba | exact unallocM (undrewM hba)); obtain ⟨bq, fq, hqg, rfl, hqq, hqf⟩ := id ra; have Ra := ra.row HG.out; obtain ⟨a0, a1, a2, a3, a4⟩ := HC.out wa (HFB.out.trans (ba.mono HFB.out.size)); obtain ⟨aa0, aa1, aa2, aa3, aa4⟩ := HC.out (wa.alloc (.cells #[.slice none 0 0, .slice none 0 0, .slice none 0 0, .int .i64 0] 34)) (HFB.out.trans ((ba.alloc ba.size _).mono HFB.out.size)); have za := ba.size; (try (with_reducible have kx0 := boxNewN hba)); clear hba ra hqg hqq hqf; try dsimp only) | (go_at_call 15; refine (toOu_any c _).mono ?_; rintro e wb ⟨rfl, hbb⟩; have bw : Below wa.heap.size wa wb := (by with_reducible first | exact hbb | exact unallocM hbb); have bb : Below wF.heap.size wF wb := ba.trans (bw.mono ba.size); have Rb := Ra.below bw; obtain ⟨b0, b1, b2, b3, b4⟩ := HC.out wb (HFB.out.trans (bb.mono HFB.out.size)); obtain ⟨bb0, bb1, bb2, bb3, bb4⟩ := HC.out (wb.alloc (.cells #[.slice none 0 0, .slice none 0 0, .slice none 0 0, .int .i64 0] 34)) (HFB.out.trans ((bb.alloc bb.size _).mono HFB.out.size)); have zb := bw.size; (try (with_reducible have kx1 := boxNewP hbb)); (try (have kx0b := boxKeep bw kx0)); clear hbb; try dsimp only) | (go_at_call 16; refine (HQI.out _ _ (by with_reducible first | exact Rb | exact Rb.below ((Below.refl _ _).alloc (Nat.le_refl _) _))).mono ?_; rintro e w3 hA3; obtain ⟨us, ss, ls, e1, e2, e3, rfl, -, -, -, hLH, hb3⟩ := hA3; have hr3 := hLH.row; obtain ⟨h1, hc1, h2, hc2, h3, hc3, rfl, rfl, rfl⟩ := hr3.val; have bv : Below wb.heap.size wb w3 := (by with_reducible first | exact hb3 | exact unallocM hb3); have b3 : Below wF.heap.size wF w3 := bb.trans (bv.mono bb.size); obtain ⟨v0, v1, v2, v3, v4⟩ := HC.out w3 (HFB.out.trans (b3.mono HFB.out.size)); obtain ⟨vv0, vv1, vv2, vv3, vv4⟩ := HC.out (w3.alloc (.cells #[.slice none 0 0, .slice none 0 0, .slice none 0 0, .int .i64 0] 34)) (HFB.out.trans ((b3.alloc b3.size _).mono HFB.out.size)); have zv := bv.size; (try (with_reducible have kx2 := boxNewP hb3)); (try (have kx1c := boxKeep bv kx1)); (try (have kx0c := boxKeep bv kx0b)); (try (have zz := bx4 kx2; obtain ⟨z0, z1, z2, z3⟩ := zz; have hfz := frz kx2)); (try (have zz := bx4 kx1c; obtain ⟨z0, z1, z2, z3⟩ := zz; have hfz := frz kx1c)); (try (have zz := bx4 kx0c; obtain ⟨z0, z1, z2, z3⟩ := zz; have hfz := frz kx0c)); clear hb3; try dsimp only) | fail)
    all_goals (go_wp2_with fail; go_meet)
    all_goals first | (have _h := kx0c; exact ⟨wF.heap.size, h1, hc1, h2, hc2, h3, hc3, rfl, st4 kx0c, rset4 hr3 kx0c _ _ _ _, ((((b3.setCell (by show wF.heap.size ≤ wF.heap.size; omega) _).setCell (by show wF.heap.size ≤ wF.heap.size; omega) _).setCell (by show wF.heap.size ≤ wF.heap.size; omega) _).setCell (by show wF.heap.size ≤ wF.heap.size; omega) _)⟩) | (have _h := kx1c; exact ⟨wa.heap.size, h1, hc1, h2, hc2, h3, hc3, rfl, st4 kx1c, rset4 hr3 kx1c _ _ _ _, ((((b3.setCell (by show wF.heap.size ≤ wa.heap.size; omega) _).setCell (by show wF.heap.size ≤ wa.heap.size; omega) _).setCell (by show wF.heap.size ≤ wa.heap.size; omega) _).setCell (by show wF.heap.size ≤ wa.heap.size; omega) _)⟩) | (have _h := kx2; exact ⟨wb.heap.size, h1, hc1, h2, hc2, h3, hc3, rfl, st4 kx2, rset4 hr3 kx2 _ _ _ _, ((((b3.setCell (by show wF.heap.size ≤ wb.heap.size; omega) _).setCell (by show wF.heap.size ≤ wb.heap.size; omega) _).setCell (by show wF.heap.size ≤ wb.heap.size; omega) _).setCell (by show wF.heap.size ≤ wb.heap.size; omega) _)⟩) | exact ⟨w3.heap.size, h1, hc1, h2, hc2, h3, hc3, rfl, World.alloc_heap_new _ _, hr3.below ((Below.refl _ _).alloc (Nat.le_refl _) _), b3.alloc b3.size _⟩ | fail
  case rest =>
  obtain ⟨BH, h1, hc1, h2, hc2, h3, hc3, rfl, hx8, hr8, hb8⟩ := hcut
  rename World => W8
  have HI : Hid (Below W4.heap.size W4 W8 ∧ LOo d1 d2 d3 W8 (.slice g1 P.list.length gc1) (.slice g2 P.sent.length gc2) (.slice g3 P.lost.length gc3) (mkOo 1 P) ∧ W8.heap[BG]? = some (.cells #[.slice g1 P.list.length gc1, .slice g2 P.sent.length gc2, .slice g3 P.lost.length gc3, .int .i64 P.code] 34)) := ⟨HF.out.1.trans (hb8.mono HF.out.1.size), HF.out.2.1.below hb8, (hb8.block _ (Array.getElem?_eq_some_iff.1 HF.out.2.2).1).trans HF.out.2.2⟩
  have HH : Hid (ROo W8 (.slice h1 P.list.length hc1) (.slice h2 P.sent.length hc2) (.slice h3 P.lost.length hc3) P ∧ W8.heap[BH]? = some (.cells #[.slice h1 P.list.length hc1, .slice h2 P.sent.length hc2, .slice h3 P.lost.length hc3, .int .i64 P.code] 34)) := ⟨hr8, hx8⟩
  clear hb8 hr8 hx8 HF
  obtain ⟨x0, x1, x2, x3⟩ := bx4 HH.out.2
  obtain ⟨y0, y1, y2, y3⟩ := bx4 (HWB.out W8 HI.out.1).1
  go_wp2_with fail
  refine (eqOo_any P _ _ _ _ _ _ _ HH.out.1 (HWB.out W8 HI.out.1).2).mono ?_
  rintro e wJ ⟨rfl, hbJ⟩
  have HJ : Hid (Below W4.heap.size W4 wJ ∧ LOo d1 d2 d3 wJ (.slice g1 P.list.length gc1) (.slice g2 P.sent.length gc2) (.slice g3 P.lost.length gc3) (mkOo 1 P) ∧ wJ.heap[BG]? = some (.cells #[.slice g1 P.list.length gc1, .slice g2 P.sent.length gc2, .slice g3 P.lost.length gc3, .int .i64 P.code] 34)) := ⟨HI.out.1.trans (hbJ.mono HI.out.1.size), HI.out.2.1.below hbJ, (hbJ.block _ (Array.getElem?_eq_some_iff.1 HI.out.2.2).1).trans HI.out.2.2⟩
  clear hbJ x0 x1 x2 x3 y0 y1 y2 y3 HI HH
  obtain ⟨x0, x1, x2, x3⟩ := bx4 HJ.out.2.2
  go_wp2_with fail
  refine (heldOo_any _ _ _ P 1 _ HJ.out.2.1.row ⟨by omega, by omega⟩).mono ?_
  rintro e wK ⟨rfl, hbK⟩
  have HK : Hid (Below W0.heap.size W0 wK) := by
    have b := HJ.out.1.trans (hbK.mono HJ.out.1.size)
    exact H4.out.1.trans (b.mono H4.out.1.size)
  clear hbK x0 x1 x2 x3
  go_wp2
  go_ret
  exact ⟨rfl, HW.out.trans ((HK.out).mono HW.out.size)⟩
theorem own : ownKnob Try.prog.godebug = none := by kernel_rfl
theorem laidOut : laidOutB Try.prog = true := by kernel_rfl
set_option maxRecDepth 100000 in
theorem lifted (os : Os) (started : os.Started) (H : Type) (enc : TypeId × Value → H) :
    ReturnsInHanded {} Try.checked os 4 .any (Rows.fnExactOutboxPutSpec.pre6 enc Try.prog Try.f4 Rows.fnExactOutboxPutRow.domain false) (Rows.fnExactOutboxPutSpec.post enc Try.prog Try.f4 false true false false) := by
  refine returnsInHanded_of_change (C := Try.checked) own started (by kernel_rfl) Try.func4
    (ChangeSpec.witness6 (enc := enc) (C := Try.checked) false ⟨#[], #[.slice none 0 0, .agg #[.string ⟨#[]⟩, .int .i64 0, .string ⟨#[]⟩, .int .i64 0, .int .i64 0]], []⟩ 8 (by kernel_rfl) (by kernel_rfl) (by kernel_rfl) (by kernel_rfl)) ?_
  intro W base args ds gs before hval0 hW hcnd _
  have hval : ∀ (j : Nat) t v, Try.f4.params[j]? = some t → args[j]? = some v → Value.okWide Try.prog W .any base t v := hval0
  have hW' := hW
  obtain ⟨p, q, hA0, hV, rfl, hfz, hnd⟩ := hW
  have hA : DataW.TrodAll enc Try.prog W 0 (fun _ => true) true Try.f4.params.toList args.toList ds p := hA0
  rw [Try.params4] at hA hval
  obtain ⟨v0, vs0, d0, ds0, p0, q0, hargs, rfl, rfl, h0, r0⟩ := trodAll_cons hA
  obtain ⟨v1, vs1, d1, ds1, p1, q1, rfl, rfl, rfl, h1, r1⟩ := trodAll_cons r0
  obtain ⟨rfl, rfl, rfl⟩ := trodAll_nil r1
  obtain rfl : args = #[v0, v1] := by cases args; simp_all
  obtain ⟨rfl, rfl⟩ := trodVars_none hV
  have k0 := h0
  have lt0 : ∀ x ∈ p0, x.block < W.heap.size := by obtain ⟨m, hm⟩ := k0; exact DataW.trod_lt m _ _ _ hm
  obtain ⟨rs0, hr0⟩ := openOusa (hval 0 22 v0 rfl rfl) h0
  have k1 := h1
  have lt1 : ∀ x ∈ p1, x.block < W.heap.size := by obtain ⟨m, hm⟩ := k1; exact DataW.trod_lt m _ _ _ hm
  obtain ⟨c1, rfl, hc1⟩ := openOua (hval 1 30 v1 rfl rfl) h1
  clear hA0 hval0
  refine (walk v0 rs0 c1 W hr0 hc1).mono fun e W' ⟨he, bel⟩ => ?_
  subst he
  exact ⟨_, rfl, _, _, _, [], _, [], hW', trodAll_mk1 (shut_bool Try.underlying4 _), (trodAll_cons_mk (Below.trod laidOut (by kernel_rfl) (of_decide_eq_true (by kernel_rfl)) k0 bel lt0) (trodAll_cons_mk (Below.trod laidOut (by kernel_rfl) (of_decide_eq_true (by kernel_rfl)) k1 bel lt1) trodAll_mk0)), rfl, bel.frame _, fun h => by cases h⟩
theorem over : Rows.fnExactOutboxPutRow.holds Try.pinned (OpenSpec.ofChange Rows.fnExactOutboxPutSpec) :=
  OpenClaim.holds_of_wide 4 Try.f4 rfl rfl rfl rfl rfl rfl rfl ⟨rfl, rfl, rfl, rfl, rfl⟩ rfl rfl rfl rfl rfl (by kernel_rfl) Try.func4 (by kernel_rfl)
    (of_decide_eq_true (by kernel_rfl)) (by unfold Func.isWrapper; first | (rw [if_pos (by decide +kernel)]; kernel_rfl) | (rw [if_neg (by decide +kernel)]; exact ⟨rfl, rfl⟩))
    (fun os started H enc _ => lifted os started H enc)
end fnExactOutboxPut
theorem fnExactOutboxPut_holds : Rows.FnExactOutboxPutSaid := fnExactOutboxPut.over
#print axioms fnExactOutboxPut_holds
end Go.Proofs.Ytfjeaknlooomjaa
