/- Contract of the model's PartnerTake. -/
import Derived.Test.YtbnjieppcojckaaTkQ
import Derived.Test.YtbnjieppcojckaaCopyS
import Derived.Deep.RegionHeld3
import Derived.Deep.Cut
import Derived.Deep.CutRange
namespace Go.Proofs.Ytbnjieppcojckaa
open Go.ChangeShapes Go.WideShapes Go.ChangeAt Go.RowKit
/-- The boxes, and the one of what is told. -/
structure SO (w W : World) (p : Ptn) (A : Option Addr) (C O : Nat) (v : Value) (low next kd : Int) (s : Sn) : Prop where
  q : QR w W p A C
  ob : W.heap[O]? = some (.cells #[.string p.name, .int .i64 low, .int .i64 next, v, .int .i64 kd, .int .i64 s.number, .int .i64 s.answer, .int .i64 s.code, .int .i64 0] 36)
  ol : w.heap.size + 2 ≤ O
theorem SO.below {w W W' : World} {p : Ptn} {A : Option Addr} {C O : Nat} {v : Value} {low next kd : Int} {s : Sn} (h : SO w W p A C O v low next kd s) (hb : Below W.heap.size W W') : SO w W' p A C O v low next kd s :=
  ⟨h.q.below hb, (hb.block _ (Array.getElem?_eq_some_iff.1 h.ob).1).trans h.ob, h.ol⟩
theorem SO.lt {w W : World} {p : Ptn} {A : Option Addr} {C O : Nat} {v : Value} {low next kd : Int} {s : Sn} (h : SO w W p A C O v low next kd s) : O < W.heap.size := (Array.getElem?_eq_some_iff.1 h.ob).1
theorem SO.cells {w W : World} {p : Ptn} {A : Option Addr} {C O : Nat} {v : Value} {low next kd : Int} {s : Sn} (h : SO w W p A C O v low next kd s) : (W.cell? ⟨O, 0, none⟩ = some (.string p.name) ∧ W.cell? ⟨O, 1, none⟩ = some (.int .i64 low) ∧ W.cell? ⟨O, 2, none⟩ = some (.int .i64 next) ∧ W.cell? ⟨O, 3, none⟩ = some (v) ∧ W.cell? ⟨O, 4, none⟩ = some (.int .i64 kd) ∧ W.cell? ⟨O, 5, none⟩ = some (.int .i64 s.number) ∧ W.cell? ⟨O, 6, none⟩ = some (.int .i64 s.answer) ∧ W.cell? ⟨O, 7, none⟩ = some (.int .i64 s.code) ∧ W.cell? ⟨O, 8, none⟩ = some (.int .i64 0)) ∧ ∀ o, W.frozen? ⟨O, o, none⟩ = false := by
  have h1 := h.ob
  refine ⟨⟨?_, ?_, ?_, ?_, ?_, ?_, ?_, ?_, ?_⟩, fun o => ?_⟩ <;> simp [World.cell?, World.frozen?, h1]
/-- The answer written into it. -/
theorem SO.set {w W : World} {p : Ptn} {A : Option Addr} {C O : Nat} {v : Value} {low next kd : Int} {s : Sn} (h : SO w W p A C O v low next kd s) (hR : RPt w (.slice A p.seen.length C) p) (s' : Sn) : SO w (((W.setCell ⟨O, 5, none⟩ (.int .i64 s'.number)).setCell ⟨O, 6, none⟩ (.int .i64 s'.answer)).setCell ⟨O, 7, none⟩ (.int .i64 s'.code)) p A C O v low next kd s' := by
  have hl := h.ol
  have hlt := h.q.lt
  have hb0 : Below (w.heap.size + 2) W (((W.setCell ⟨O, 5, none⟩ (.int .i64 s'.number)).setCell ⟨O, 6, none⟩ (.int .i64 s'.answer)).setCell ⟨O, 7, none⟩ (.int .i64 s'.code)) := (((Below.refl _ _).setCell hl _).setCell hl _).setCell hl _
  have hb1 := h.q.bel.trans (hb0.mono (show w.heap.size ≤ w.heap.size + 2 by omega))
  refine ⟨⟨hb1, (hb0.block _ (by omega)).trans h.q.pb, (hb0.block _ (by omega)).trans h.q.rb, hR.below hb1⟩, ?_, hl⟩
  have h1 := h.ob
  simp [World.setCell, Array.getElem?_modify, h1]
/-- Those from low on, and s in its place: what the loop makes, from place j on. -/
def restL (low : Int) (s : Sn) (d : Bool) (l : List Sn) : List Sn := if d then l.filter (fun x => decide (low ≤ x.number)) else insSn s (l.filter fun x => decide (low ≤ x.number))
theorem rest_both {low : Int} {s x : Sn} {r : List Sn} (h1 : s.number < x.number) (h2 : low ≤ x.number) : restL low s false (x :: r) = [s, x] ++ restL low s true r := by
  simp [restL, h2, insSn, h1]
theorem rest_one {low : Int} {s x : Sn} {r : List Sn} {d : Bool} (h1 : d = true ∨ ¬ s.number < x.number) (h2 : low ≤ x.number) : restL low s d (x :: r) = [x] ++ restL low s d r := by
  cases d
  · rcases h1 with h | h
    · cases h
    · simp [restL, h2, insSn, h]
  · simp [restL, h2]
theorem rest_none {low : Int} {s x : Sn} {r : List Sn} {d : Bool} (h2 : ¬ low ≤ x.number) : restL low s d (x :: r) = restL low s d r := by
  cases d <;> simp [restL, h2]
theorem low_same {low k : Int} {l : List Sn} (h : ∀ x ∈ l, low ≤ x.number) : l.filter (fun x => decide (max low (k - 31) ≤ x.number)) = l.filter fun x => decide (k - 31 ≤ x.number) := by
  apply List.filter_congr
  intro x hx
  have := h x hx
  simp only [decide_eq_decide]
  omega
theorem at_new (W : World) (g : Sn) : AtSn (W.alloc (.cells #[.int .i64 g.number, .int .i64 g.answer, .int .i64 g.code] 34)) W.heap.size 0 g := by
  refine ⟨?_, ?_, ?_⟩ <;> simp [go_sem]
theorem kp567 {W : World} {b o U : Nat} {v : Value} (h : W.cell? ⟨b, o, none⟩ = some v) (hne : b ≠ U) (x y z : Value) : (((W.setCell ⟨U, 5, none⟩ x).setCell ⟨U, 6, none⟩ y).setCell ⟨U, 7, none⟩ z).cell? ⟨b, o, none⟩ = some v := by
  have e : ∀ (W : World) (i : Nat) (x : Value), (W.setCell ⟨U, i, none⟩ x).cell? ⟨b, o, none⟩ = W.cell? ⟨b, o, none⟩ := fun W i x => World.cell?_of_block (Below.heap_setCell W ⟨U, i, none⟩ x b hne)
  rw [e, e, e]
  exact h
theorem undrewS {a b : World} (h : Below a.drew.heap.size a.drew b) : Below a.heap.size a b := (Below.refl _ _).drew.trans h
theorem find_is {l : List Sn} {k z : Int} {s : Sn} (h : FindO l k z) (hs : l.find? (fun x => decide (x.number = k)) = some s) (hr : Rise l) {j0 : Nat} (h0 : l[j0]? = some s) : z = (j0 : Int) := by
  rcases h with ⟨_, h⟩ | ⟨j, s', h1, h2, _, h3⟩
  · rw [hs] at h
    cases h
  · rw [hs] at h3
    cases h3
    obtain ⟨a1, a2⟩ := List.getElem?_eq_some_iff.1 h2
    obtain ⟨b1, b2⟩ := List.getElem?_eq_some_iff.1 h0
    rcases Nat.lt_trichotomy j j0 with g | g | g
    · have := List.pairwise_iff_getElem.1 hr j j0 a1 b1 g
      rw [a2, b2] at this
      omega
    · rw [h1, g]
    · have := List.pairwise_iff_getElem.1 hr j0 j b1 a1 g
      rw [a2, b2] at this
      omega
theorem set3_lsn {W : World} {b O : Nat} {u : Value} {l : List Sn} (h : LSn b W u l) (hne : l ≠ [] → b ≠ O) (x y z : Value) : LSn b (((W.setCell ⟨O, 5, none⟩ x).setCell ⟨O, 6, none⟩ y).setCell ⟨O, 7, none⟩ z) u l := by
  refine h.of_block fun hn => ?_
  rw [Below.heap_setCell _ _ _ _ (show b ≠ O from hne hn), Below.heap_setCell _ _ _ _ (show b ≠ O from hne hn), Below.heap_setCell _ _ _ _ (show b ≠ O from hne hn)]
theorem set312_lsn {W : World} {b O : Nat} {u : Value} {l : List Sn} (h : LSn b W u l) (hne : b ≠ O) (x y z : Value) : LSn b (((W.setCell ⟨O, 3, none⟩ x).setCell ⟨O, 1, none⟩ y).setCell ⟨O, 2, none⟩ z) u l := by
  refine h.of_block fun hn => ?_
  rw [Below.heap_setCell _ _ _ _ (show b ≠ O from hne), Below.heap_setCell _ _ _ _ (show b ≠ O from hne), Below.heap_setCell _ _ _ _ (show b ≠ O from hne)]
theorem app_below {W5 W W' : World} {x : Obj} {lv : Value} {n : Nat} {xs : List Value} (hb : Below W5.heap.size W5 W) (ho : W.ownsRow W5.heap.size 34 3 lv n xs) (hg : (W.alloc x).grownBy W' lv.ownBlock) : Below W5.heap.size W5 W' := by
  have hs := hb.size
  refine (hb.alloc hs x).trans ⟨hg.os, hg.tape, hg.output, hg.size, fun q hq => hg.block q (by simp; omega) (fun e => ?_)⟩
  have := (ho.lt q e.symm).1
  omega
set_option maxHeartbeats 16000000 in
theorem take_specL (p : Ptn) (v : Value) (k c : Int) (w : World) (h : RPt w v p) (hv : Fair v) : Calls Try.prog 9 #[.agg #[.string p.name, .int .i64 p.low, .int .i64 p.next, v], .int .i64 k, .int .i64 c] w fun e w' => ∃ u, e = .returned ((takeT p k c).val u) ∧ Fair u ∧ (∃ b, w.heap.size ≤ b ∧ LSn b w' u (takeT p k c).p.seen) ∧ Below w.heap.size w w' := by
  obtain ⟨A, C, hv0⟩ := h.ls.val
  subst hv0
  have q0 : QR w ((w.alloc (.cells #[.string p.name, .int .i64 p.low, .int .i64 p.next, .slice A p.seen.length C] 30)).alloc (.cells #[.string ⟨#[]⟩, .int .i64 0, .int .i64 0, .slice none 0 0, .int .i64 0, .int .i64 0, .int .i64 0, .int .i64 0, .int .i64 0] 36)) p A C := by
    have b1 : Below w.heap.size w (w.alloc (.cells #[.string p.name, .int .i64 p.low, .int .i64 p.next, .slice A p.seen.length C] 30)) := (Below.refl _ _).alloc (Nat.le_refl _) _
    have b2 : Below (w.heap.size + 1) (w.alloc (.cells #[.string p.name, .int .i64 p.low, .int .i64 p.next, .slice A p.seen.length C] 30)) ((w.alloc (.cells #[.string p.name, .int .i64 p.low, .int .i64 p.next, .slice A p.seen.length C] 30)).alloc (.cells #[.string ⟨#[]⟩, .int .i64 0, .int .i64 0, .slice none 0 0, .int .i64 0, .int .i64 0, .int .i64 0, .int .i64 0, .int .i64 0] 36)) := (Below.refl _ _).alloc (by simp) _
    refine ⟨b1.trans (b2.mono (by omega)), (b2.block _ (by omega)).trans (World.alloc_heap_new _ _), ?_, h.below (b1.trans (b2.mono (by omega)))⟩
    have := World.alloc_heap_new (w.alloc (.cells #[.string p.name, .int .i64 p.low, .int .i64 p.next, .slice A p.seen.length C] 30)) (.cells #[.string ⟨#[]⟩, .int .i64 0, .int .i64 0, .slice none 0 0, .int .i64 0, .int .i64 0, .int .i64 0, .int .i64 0, .int .i64 0] 36)
    simpa using this
  have HR0 : Hid (RPt w (.slice A p.seen.length C) p ∧ Fair (.slice A p.seen.length C)) := ⟨h, hv⟩
  clear h hv
  go_enter Try.func9, Try.ntmps9
  go_wp2_with fail
  refine (ptRight_spec p _ _ q0.row).mono ?_
  rintro e w1 ⟨rfl, hb1⟩
  have q1 := q0.below hb1
  clear hb1 q0
  have HQ : Hid (QR w w1 p A C) := q1
  obtain ⟨⟨r0, r1, r2, r3, r4, r5, r6, r7, r8⟩, rf⟩ := q1.rcells
  obtain ⟨p0, p1, p2, p3⟩ := q1.pcells
  clear q1
  have HF : Hid ((ptnB p && (ctlB k && codeB c)) = false → takeT p k c = ⟨zeroPt, 0, ⟨0, 0, 0⟩, 1⟩) := takeT_form
  cases hr : ptnB p
  · go_wp2
    exact bodyPost_ret (v := (takeT p k c).val (.slice none 0 0)) (by rw [HF.out (by rw [hr]; rfl)]; simp [results, Try.results9, go_sem, Tk.val, zeroPt, r0, r1, r2, r3, r4, r5, r6, r7, r8]) rfl ⟨_, rfl, .inl rfl, by rw [HF.out (by rw [hr]; rfl)]; exact ⟨w.heap.size, Nat.le_refl _, LSn.nil _ _⟩, set9_below HQ.out.bel (by omega) _ _ _ _ _ _ _ _ _⟩
  go_wp2_with fail
  refine (l01Control_any k _).mono ?_
  rintro e w2 ⟨rfl, hw2⟩
  replace hw2 := hw2.symm
  subst hw2
  cases hk : ctlB k
  · go_wp2
    exact bodyPost_ret (v := (takeT p k c).val (.slice none 0 0)) (by rw [HF.out (by rw [hr, hk]; rfl)]; simp [results, Try.results9, go_sem, Tk.val, zeroPt, r0, r1, r2, r3, r4, r5, r6, r7, r8]) rfl ⟨_, rfl, .inl rfl, by rw [HF.out (by rw [hr, hk]; rfl)]; exact ⟨w.heap.size, Nat.le_refl _, LSn.nil _ _⟩, set9_below HQ.out.bel (by omega) _ _ _ _ _ _ _ _ _⟩
  by_cases c1 : c < 0
  · go_wp2
    exact bodyPost_ret (v := (takeT p k c).val (.slice none 0 0)) (by rw [HF.out (by rw [hr, hk]; simp [codeB]; omega)]; simp [results, Try.results9, go_sem, Tk.val, zeroPt, r0, r1, r2, r3, r4, r5, r6, r7, r8]) rfl ⟨_, rfl, .inl rfl, by rw [HF.out (by rw [hr, hk]; simp [codeB]; omega)]; exact ⟨w.heap.size, Nat.le_refl _, LSn.nil _ _⟩, set9_below HQ.out.bel (by omega) _ _ _ _ _ _ _ _ _⟩
  by_cases c2 : 13 < c
  · go_wp2
    exact bodyPost_ret (v := (takeT p k c).val (.slice none 0 0)) (by rw [HF.out (by rw [hr, hk]; simp [codeB]; omega)]; simp [results, Try.results9, go_sem, Tk.val, zeroPt, r0, r1, r2, r3, r4, r5, r6, r7, r8]) rfl ⟨_, rfl, .inl rfl, by rw [HF.out (by rw [hr, hk]; simp [codeB]; omega)]; exact ⟨w.heap.size, Nat.le_refl _, LSn.nil _ _⟩, set9_below HQ.out.bel (by omega) _ _ _ _ _ _ _ _ _⟩
  have hT : (ptnB p && (ctlB k && codeB c)) = true := by
    rw [hr, hk]
    simp [codeB]
    omega
  have HT : Hid (ptnB p = true ∧ ctlB k = true ∧ (ptnB p && (ctlB k && codeB c)) = true) := ⟨hr, hk, hT⟩
  clear r0 r1 r2 r3 r4 r5 r6 r7 r8 rf hT
  obtain ⟨kd, hkd⟩ : ∃ kd, kd = kndZ p.low p.seen k := ⟨_, rfl⟩
  have ask : askZ p k = kd := by rw [hkd]; simp [askZ, hr, hk]
  have HKD : Hid (kd = kndZ p.low p.seen k ∧ askZ p k = kd) := ⟨hkd, ask⟩
  obtain ⟨_, g1, g2, g3, g4, g5⟩ := ptnB_parts hr
  have HG : Hid (p.seen.length ≤ 32 ∧ Rise p.seen ∧ ∀ x ∈ p.seen, p.low ≤ x.number ∧ x.number ≤ 999999) := ⟨g3, g4, fun x hx => by have := g5 x hx; omega⟩
  obtain ⟨hn1, hn2⟩ := g2
  obtain ⟨hl1, hl2⟩ := g1
  obtain ⟨hk1, hk2⟩ := ctlB_iff.1 hk
  have hk3 := kndZ_cases p.low p.seen k
  rw [← hkd] at hk3
  clear hr hk hkd ask g3 g4 g5
  go_wp2_with fail
  refine (ptAsk_spec p _ k _ HQ.out.row).mono ?_
  rw [HKD.out.2]
  rintro e w2 ⟨rfl, hb2⟩
  have q2 := HQ.out.below hb2
  have HQ2 : Hid (QR w w2 p A C) := q2
  obtain ⟨x0, x1, x2, x3⟩ := q2.pcells
  clear hb2 q2 p0 p1 p2 p3
  go_wp2_with fail
  refine (l07Copy_any p _ _ HQ2.out.row HR0.out.2 (by have := HG.out.1; omega)).mono ?_
  rintro e w3 ⟨u, rfl, hfu, ⟨bu, hbu, hru⟩, hb3⟩
  obtain ⟨Au, Cu, hu⟩ := hru.val
  subst hu
  have so : SO w (w3.alloc (.cells #[.string p.name, .int .i64 p.low, .int .i64 p.next, (.slice Au p.seen.length Cu), .int .i64 kd, .int .i64 (⟨0, 0, 0⟩ : Sn).number, .int .i64 (⟨0, 0, 0⟩ : Sn).answer, .int .i64 (⟨0, 0, 0⟩ : Sn).code, .int .i64 0] 36)) p A C w3.heap.size (.slice Au p.seen.length Cu) p.low p.next kd ⟨0, 0, 0⟩ := by
    have hl := (HQ2.out.below hb3).lt
    exact ⟨(HQ2.out.below hb3).below ((Below.refl _ _).alloc (Nat.le_refl _) _), World.alloc_heap_new _ _, by omega⟩
  have H3 : Hid (SO w (w3.alloc (.cells #[.string p.name, .int .i64 p.low, .int .i64 p.next, (.slice Au p.seen.length Cu), .int .i64 kd, .int .i64 0, .int .i64 0, .int .i64 0, .int .i64 0] 36)) p A C w3.heap.size (.slice Au p.seen.length Cu) p.low p.next kd ⟨0, 0, 0⟩ ∧ LSn bu w3 (.slice Au p.seen.length Cu) p.seen ∧ Fair (.slice Au p.seen.length Cu) ∧ w.heap.size + 2 ≤ bu) := ⟨so, hru, hfu, by have := HQ2.out.lt; omega⟩
  obtain ⟨⟨o0, o1, o2, o3, o4, o5, o6, o7, o8⟩, of⟩ := so.cells
  obtain ⟨y0, y1, y2, y3⟩ := so.q.pcells
  obtain ⟨⟨r0, r1, r2, r3, r4, r5, r6, r7, r8⟩, rf⟩ := so.q.rcells
  dsimp only at o0 o1 o2 o3 o4 o5 o6 o7 o8
  have HQ3 : Hid (QR w w3 p A C) := HQ2.out.below hb3
  clear so hru hfu hb3 x0 x1 x2 x3
  rcases hk3 with rfl | rfl | rfl
  · by_cases h2 : p.next = 999999
    · have HE : Hid (takeT p k c = ⟨zeroPt, 0, ⟨0, 0, 0⟩, 13⟩) := takeT_full HT.out.2.2 HKD.out.1.symm h2
      have h2' : (p.next == 999999) = true := by simpa using h2
      clear h2
      go_wp2
      exact bodyPost_ret (v := (takeT p k c).val (.slice none 0 0)) (by rw [HE.out]; simp [results, Try.results9, go_sem, Tk.val, zeroPt, r0, r1, r2, r3, r4, r5, r6, r7, r8]) rfl ⟨_, rfl, .inl rfl, by rw [HE.out]; exact ⟨w.heap.size, Nat.le_refl _, LSn.nil _ _⟩, set9_below H3.out.1.q.bel (by omega) _ _ _ _ _ _ _ _ _⟩
    · have HE : Hid (takeT p k c = ⟨newPt p k c, 1, ⟨k, p.next, c⟩, 0⟩) := takeT_new HT.out.2.2 HKD.out.1.symm h2
      have h2' : (p.next == 999999) = false := by simpa using h2
      have hnew := newPt_facts (c := c) HT.out.1 ⟨hk1, hk2⟩ HKD.out.1.symm
      have hkl := (kndZ_new HKD.out.1.symm).1
      have so4 : SO w (w3.alloc (.cells #[.string p.name, .int .i64 p.low, .int .i64 p.next, (.slice Au p.seen.length Cu), .int .i64 1, .int .i64 k, .int .i64 p.next, .int .i64 c, .int .i64 0] 36)) p A C w3.heap.size (.slice Au p.seen.length Cu) p.low p.next 1 ⟨k, p.next, c⟩ := ⟨HQ3.out.below ((Below.refl _ _).alloc (Nat.le_refl _) _), World.alloc_heap_new _ _, H3.out.1.ol⟩
      obtain ⟨z0, z1, z2, z3⟩ := so4.q.pcells
      have H4 : Hid (SO w (w3.alloc (.cells #[.string p.name, .int .i64 p.low, .int .i64 p.next, (.slice Au p.seen.length Cu), .int .i64 1, .int .i64 k, .int .i64 p.next, .int .i64 c, .int .i64 0] 36)) p A C w3.heap.size (.slice Au p.seen.length Cu) p.low p.next 1 ⟨k, p.next, c⟩) := so4
      clear so4
      have hfin : (newPt p k c).seen = restL (max p.low (k - 31)) ⟨k, p.next, c⟩ false p.seen := by
        unfold restL
        rw [low_same (fun x hx => (HG.out.2.2 x hx).1)]
        rfl
      have HN : Hid ((newPt p k c).seen = restL (max p.low (k - 31)) ⟨k, p.next, c⟩ false p.seen ∧ (newPt p k c).seen.length ≤ 33) := ⟨hfin, hnew.2.1⟩
      clear hnew hfin
      go_wp2_with fail
      refine (l01Max_any p.low (k - 32 + 1) _).mono ?_
      rintro e w4 ⟨rfl, hw4⟩
      rw [show k - 32 + 1 = k - 31 by omega]
      obtain ⟨low2, hlow2⟩ : ∃ low2, low2 = max p.low (k - 31) := ⟨_, rfl⟩
      have HLW : Hid (low2 = max p.low (k - 31)) := hlow2
      have hlk : low2 ≤ k := by omega
      rw [← hlow2]
      rw [← hw4] at z0 z1 z2 z3 H4
      clear hw4 hlow2 o0 o1 o2 o3 o4 o5 o6 o7 o8 of y0 y1 y2 y3 r0 r1 r2 r3 r4 r5 r6 r7 r8 rf
      go_wp2
      have hs4 : w3.heap.size < w4.heap.size := H4.out.lt
      have hbw : w.heap.size + 2 ≤ w3.heap.size := H4.out.ol
      have HM : Hid ((w4.alloc (.cells #[] 34)).ownsRow w4.heap.size 34 3 (.slice (some ⟨w4.heap.size, 0, none⟩) 0 0) ([] : List Sn).length (clSns [])) := ⟨rfl, .inr ⟨_, 0, #[], rfl, Nat.le_refl _, World.alloc_heap_new _ _, Nat.le_refl _, by simp [maxLen], rfl, rfl⟩⟩
      clear z0 z1 z2 z3
      go_loopw [10, 11, 12] (fun lv dn i wr => ∃ (j : Nat) (acc : List Sn) (d : Bool), i = .int .i64 (j : Int) ∧ dn = .bool d ∧ j ≤ p.seen.length ∧ (∃ A C, lv = .slice A acc.length C) ∧ wr.ownsRow w4.heap.size 34 3 lv acc.length (clSns acc) ∧ acc.length ≤ 2 * j ∧ (newPt p k c).seen = acc ++ restL low2 ⟨k, p.next, c⟩ d (p.seen.drop j) ∧ Below w4.heap.size w4 wr) (fun _ _ i _ => p.seen.length - (intOf i).toNat)
      case atStart => exact ⟨0, [], false, rfl, rfl, by omega, ⟨_, _, rfl⟩, HM.out, by simp, by rw [HN.out.1, HLW.out]; simp, (Below.refl _ _).alloc (Nat.le_refl _) _⟩
      case round =>
        obtain ⟨j, acc, d, rfl, rfl, hj, ⟨A1, C1, rfl⟩, hR, hacc, hF, hb⟩ := hrel
        have hlen := HG.out.1
        have so5 := H4.out.below hb
        have HE5 : Hid (wr.ownsRow w4.heap.size 34 3 (.slice A1 acc.length C1) acc.length (clSns acc) ∧ (newPt p k c).seen = acc ++ restL low2 ⟨k, p.next, c⟩ d (p.seen.drop j) ∧ Below w4.heap.size w4 wr) := ⟨hR, hF, hb⟩
        obtain ⟨y0, y1, y2, y3⟩ := so5.q.pcells
        obtain ⟨⟨o0, o1, o2, o3, o4, o5, o6, o7, o8⟩, of⟩ := so5.cells
        dsimp only at o0 o1 o2 o3 o4 o5 o6 o7 o8
        by_cases hlt : j < p.seen.length
        · have hlt' : (j : Int) < (p.seen.length : Int) := by omega
          obtain ⟨bb, oo, cap', g, e, hs, hat⟩ := so5.q.row.ls.at hlt
          simp only [Value.slice.injEq, true_and] at e
          obtain ⟨rfl, rfl⟩ := e
          have hx4 : AtSn w4 bb (oo + j * 3) g := by
            obtain ⟨b3, o3, _, g3, e3, hs3, hc3⟩ := H4.out.q.row.ls.at hlt
            simp only [Value.slice.injEq, Option.some.injEq, Addr.mk.injEq, true_and, and_true] at e3
            rw [hs] at hs3
            cases hs3
            rw [e3.1.1, e3.1.2]
            exact hc3
          have HX : Hid (p.seen[j]? = some g ∧ AtSn wr bb (oo + j * 3) g) := ⟨hs, hat⟩
          obtain ⟨q0, q1, q2⟩ := hat
          clear hs hR hF hb so5
          obtain ⟨num, ans, cod⟩ := g
          dsimp only at q0 q1 q2
          by_cases c2 : low2 ≤ num
          · by_cases c3 : k < num
            · cases d
              · have HC2 : Hid (low2 ≤ num) := c2
                have HC3 : Hid (k < num) := c3
                have HX0 : Hid (AtSn w4 bb (oo + j * 3) ⟨num, ans, cod⟩) := hx4
                clear hx4
                have hac : acc.length ≤ 64 := by omega
                have tok1 : True := trivial
                go_wp2_with (first | (at_builtin; have _t := tok1; refine wpList_appSn (g := ⟨k, p.next, c⟩) rfl _ _ rfl rfl rfl (HE5.out.1.alloc _) (at_new _ ⟨k, p.next, c⟩) (by omega) (by have := HE5.out.2.2.size; simp; omega) ?_; rintro v6 w6 hown6 hgrow6 ⟨A6, C6, rfl⟩; have hb6 := app_below HE5.out.2.2 HE5.out.1 hgrow6; have H6 : Hid (w6.ownsRow w4.heap.size 34 3 (.slice A6 (acc.length + 1) C6) (acc ++ [(⟨k, p.next, c⟩ : Sn)]).length (clSns (acc ++ [⟨k, p.next, c⟩])) ∧ Below w4.heap.size w4 w6) := ⟨(by have e6 : (acc ++ [(⟨k, p.next, c⟩ : Sn)]).length = acc.length + 1 := (by simp); rw [← e6]; exact hown6), hb6⟩; have z3 : w6.cell? ⟨w.heap.size, 3, none⟩ = some (.slice (some ⟨bb, oo, none⟩) p.seen.length C) := ((H4.out.below hb6).q.pcells).2.2.2; obtain ⟨t0, t1, t2⟩ := (HX0.out.below hb6 : AtSn w6 bb (oo + j * 3) ⟨num, ans, cod⟩); dsimp only at t0 t1 t2; clear hown6 hgrow6 hb6 tok1) | (at_builtin; have _t := H6; refine wpList_appSn (g := ⟨num, ans, cod⟩) rfl _ _ rfl rfl rfl (H6.out.1.alloc _) (at_new _ ⟨num, ans, cod⟩) (by simp; omega) (by have := H6.out.2.size; simp; omega) ?_; rintro v7 w7 hown7 hgrow7 ⟨A7, C7, rfl⟩))
                have e7 : (acc ++ [(⟨k, p.next, c⟩ : Sn)] ++ [(⟨num, ans, cod⟩ : Sn)]).length = acc.length + 1 + 1 := by simp
                have hb7 := app_below H6.out.2 H6.out.1 hgrow7
                rw [e7] at hown7
                refine ⟨⟨j + 1, acc ++ [⟨k, p.next, c⟩] ++ [⟨num, ans, cod⟩], true, by go_num, rfl, by omega, ⟨A7, C7, by rw [e7]⟩, by rw [e7]; exact hown7, by rw [e7]; omega, ?_, hb7⟩, by simp [intOf]; omega⟩
                rw [HE5.out.2.1, drop_at HX.out.1, rest_both (x := ⟨num, ans, cod⟩) (show k < num from HC3.out) (show low2 ≤ num from HC2.out)]
                simp
              · have HC2 : Hid (low2 ≤ num) := c2
                clear hx4
                have hac : acc.length ≤ 64 := by omega
                have hd : True := trivial
                go_wp2_with (first | (at_builtin; refine wpList_appSn (g := ⟨num, ans, cod⟩) rfl _ _ rfl rfl rfl (HE5.out.1.alloc _) (at_new _ ⟨num, ans, cod⟩) (by omega) (by have := HE5.out.2.2.size; simp; omega) ?_; rintro v6 w6 hown6 hgrow6 ⟨A6, C6, rfl⟩))
                have e6 : (acc ++ [(⟨num, ans, cod⟩ : Sn)]).length = acc.length + 1 := by simp
                have hb6 := app_below HE5.out.2.2 HE5.out.1 hgrow6
                rw [e6] at hown6
                refine ⟨⟨j + 1, acc ++ [⟨num, ans, cod⟩], _, by go_num, rfl, by omega, ⟨A6, C6, by rw [e6]⟩, by rw [e6]; exact hown6, by rw [e6]; omega, ?_, hb6⟩, by simp [intOf]; omega⟩
                rw [HE5.out.2.1, drop_at HX.out.1, rest_one (x := ⟨num, ans, cod⟩) (.inl rfl) (show low2 ≤ num from HC2.out)]
                simp
            · have HC2 : Hid (low2 ≤ num ∧ ¬ k < num) := ⟨c2, c3⟩
              clear hx4
              have hac : acc.length ≤ 64 := by omega
              have hd : True := trivial
              go_wp2_with (first | (at_builtin; refine wpList_appSn (g := ⟨num, ans, cod⟩) rfl _ _ rfl rfl rfl (HE5.out.1.alloc _) (at_new _ ⟨num, ans, cod⟩) (by omega) (by have := HE5.out.2.2.size; simp; omega) ?_; rintro v6 w6 hown6 hgrow6 ⟨A6, C6, rfl⟩))
              have e6 : (acc ++ [(⟨num, ans, cod⟩ : Sn)]).length = acc.length + 1 := by simp
              have hb6 := app_below HE5.out.2.2 HE5.out.1 hgrow6
              rw [e6] at hown6
              refine ⟨⟨j + 1, acc ++ [⟨num, ans, cod⟩], _, by go_num, rfl, by omega, ⟨A6, C6, by rw [e6]⟩, by rw [e6]; exact hown6, by rw [e6]; omega, ?_, hb6⟩, by simp [intOf]; omega⟩
              rw [HE5.out.2.1, drop_at HX.out.1, rest_one (x := ⟨num, ans, cod⟩) (.inr (show ¬ k < num from HC2.out.2)) (show low2 ≤ num from HC2.out.1)]
              simp
          · clear hx4
            have c3 : ¬ k < num := by omega
            have HC : Hid (¬ low2 ≤ num) := c2
            go_wp2
            go_roundw
            case rel => exact ⟨j + 1, acc, d, by go_num, rfl, by omega, ⟨_, _, rfl⟩, HE5.out.1, by omega, by rw [HE5.out.2.1, drop_at HX.out.1, rest_none (x := ⟨num, ans, cod⟩) HC.out], HE5.out.2.2⟩
            case measure => simp [intOf]; omega
        · obtain rfl : j = p.seen.length := by omega
          clear hR hF hb
          obtain ⟨⟨r0, r1, r2, r3, r4, r5, r6, r7, r8⟩, rf⟩ := so5.q.rcells
          have H5 : Hid (SO w wr p A C w3.heap.size (.slice Au p.seen.length Cu) p.low p.next 1 ⟨k, p.next, c⟩) := so5
          have hac : acc.length ≤ 64 := by omega
          clear so5
          have htl : restL low2 ⟨k, p.next, c⟩ d (p.seen.drop p.seen.length) = if d then [] else [⟨k, p.next, c⟩] := by rw [List.drop_length]; cases d <;> rfl
          have HTL : Hid (restL low2 ⟨k, p.next, c⟩ d (p.seen.drop p.seen.length) = if d then [] else [⟨k, p.next, c⟩]) := htl
          clear htl
          cases d
          · go_wp2_with (first | (at_builtin; refine wpList_appSn (g := ⟨k, p.next, c⟩) rfl _ _ rfl rfl rfl (HE5.out.1.alloc _) (at_new _ ⟨k, p.next, c⟩) (by omega) (by have := HE5.out.2.2.size; simp; omega) ?_; rintro v6 w6 hown6 hgrow6 ⟨A6, C6, rfl⟩; have hb6 := app_below HE5.out.2.2 HE5.out.1 hgrow6; have H6 : Hid (w6.ownsRow w4.heap.size 34 3 (.slice A6 (acc ++ [(⟨k, p.next, c⟩ : Sn)]).length C6) (acc ++ [(⟨k, p.next, c⟩ : Sn)]).length (clSns (acc ++ [⟨k, p.next, c⟩])) ∧ SO w w6 p A C w3.heap.size (.slice Au p.seen.length Cu) p.low p.next 1 ⟨k, p.next, c⟩) := ⟨hown6, H4.out.below hb6⟩; clear hown6 hgrow6 hb6 o0 o1 o2 o3 o4 o5 o6 o7 o8 of y0 y1 y2 y3 r0 r1 r2 r3 r4 r5 r6 r7 r8 rf; obtain ⟨⟨o0, o1, o2, o3, o4, o5, o6, o7, o8⟩, of⟩ := H6.out.2.cells; obtain ⟨⟨r0, r1, r2, r3, r4, r5, r6, r7, r8⟩, rf⟩ := H6.out.2.q.rcells; obtain ⟨y0, y1, y2, y3⟩ := H6.out.2.q.pcells; dsimp only at o0 o1 o2 o3 o4 o5 o6 o7 o8))
            have hfin : (newPt p k c).seen = acc ++ [⟨k, p.next, c⟩] := by rw [HE5.out.2.1, HTL.out]; rfl
            have e6 : (acc ++ [(⟨k, p.next, c⟩ : Sn)]).length = acc.length + 1 := by simp
            have h6 := H6.out.1
            rw [e6] at h6
            refine bodyPost_ret (v := (takeT p k c).val (.slice A6 (acc.length + 1) C6)) (by rw [HE.out]; simp [results, Try.results9, go_sem, Tk.val, newPt, show max p.low (k - 31) = low2 from HLW.out.symm, r0, r1, r2, r3, r4, r5, r6, r7, r8]) rfl ⟨_, rfl, ?_, ?_, set9_below ((((H6.out.2.q.bel).setCell (show w.heap.size ≤ w3.heap.size by omega) _).setCell (show w.heap.size ≤ w3.heap.size by omega) _).setCell (show w.heap.size ≤ w3.heap.size by omega) _) (by omega) _ _ _ _ _ _ _ _ _⟩
            · rcases h6.2 with ⟨e, _⟩ | ⟨_, _, _, e, _⟩
              · exact .inl e
              · exact .inr ⟨_, _, _, e⟩
            · rw [HE.out]
              show ∃ b, w.heap.size ≤ b ∧ LSn b _ _ (newPt p k c).seen
              rw [hfin]
              obtain ⟨b6, hb6, hL6⟩ := LSn.of_owns (by rw [e6]; exact h6) (by simp; omega)
              exact ⟨b6, by omega, set9_lsn (set312_lsn hL6 (by omega) _ _ _) (by omega) _ _ _ _ _ _ _ _ _⟩
          · go_wp2
            have hfin : (newPt p k c).seen = acc := by rw [HE5.out.2.1, HTL.out]; simp
            have h6 := HE5.out.1
            refine bodyPost_ret (v := (takeT p k c).val (.slice A1 acc.length C1)) (by rw [HE.out]; simp [results, Try.results9, go_sem, Tk.val, newPt, show max p.low (k - 31) = low2 from HLW.out.symm, r0, r1, r2, r3, r4, r5, r6, r7, r8]) rfl ⟨_, rfl, ?_, ?_, set9_below ((((H5.out.q.bel).setCell (show w.heap.size ≤ w3.heap.size by omega) _).setCell (show w.heap.size ≤ w3.heap.size by omega) _).setCell (show w.heap.size ≤ w3.heap.size by omega) _) (by omega) _ _ _ _ _ _ _ _ _⟩
            · rcases h6.2 with ⟨e, _⟩ | ⟨_, _, _, e, _⟩
              · exact .inl e
              · exact .inr ⟨_, _, _, e⟩
            · rw [HE.out]
              show ∃ b, w.heap.size ≤ b ∧ LSn b _ _ (newPt p k c).seen
              rw [hfin]
              obtain ⟨b6, hb6, hL6⟩ := LSn.of_owns (by exact h6) (by omega)
              exact ⟨b6, by omega, set9_lsn (set312_lsn hL6 (by omega) _ _ _) (by omega) _ _ _ _ _ _ _ _ _⟩
  · obtain ⟨s2, hs2⟩ : ∃ s2, p.seen.find? (fun x => decide (x.number = k)) = some s2 := by
      have h3 := HKD.out.1
      unfold kndZ at h3
      by_cases hlt : k < p.low
      · rw [if_pos hlt] at h3
        omega
      · rw [if_neg hlt] at h3
        cases hf : p.seen.find? (fun x => decide (x.number = k)) with
        | none => rw [hf] at h3; simp at h3
        | some s2 => exact ⟨s2, rfl⟩
    have HE : Hid (takeT p k c = ⟨p, 2, s2, 0⟩) := by
      have h4 := takeT_old (c := c) HT.out.2.2 (by rw [← HKD.out.1]; omega)
      rw [hs2, ← HKD.out.1] at h4
      exact h4
    have HS2 : Hid (p.seen.find? (fun x => decide (x.number = k)) = some s2) := hs2
    clear hs2
    have hol : w.heap.size + 2 ≤ w3.heap.size := H3.out.1.ol
    obtain ⟨A', C', e', hcell⟩ := H3.out.1.q.row.ls.shape
    simp only [Value.slice.injEq, true_and] at e'
    obtain ⟨rfl, rfl⟩ := e'
    obtain ⟨bb, oo, hA', hcel⟩ := hcell (by intro e; have := HS2.out; rw [e] at this; cases this)
    clear hcell
    subst hA'
    obtain ⟨j, hj⟩ := List.getElem?_of_mem (List.mem_of_find?_eq_some HS2.out)
    obtain ⟨q0, q1, q2⟩ := hcel j s2 hj
    have HC : Hid (AtSn (w3.alloc (.cells #[.string p.name, .int .i64 p.low, .int .i64 p.next, (.slice Au p.seen.length Cu), .int .i64 2, .int .i64 0, .int .i64 0, .int .i64 0, .int .i64 0] 36)) bb (oo + j * 3) s2 ∧ p.seen[j]? = some s2) := ⟨hcel j s2 hj, hj⟩
    have hbo : bb < w3.heap.size := by
      obtain ⟨_, _, e3, h3⟩ := HR0.out.1.ls.shape
      simp only [Value.slice.injEq, true_and] at e3
      obtain ⟨b3, o3, ea, hc3⟩ := h3 (by intro e; have := HS2.out; rw [e] at this; cases this)
      rw [← e3.1] at ea
      cases ea
      have h5 := cell_lt (hc3 j s2 hj).1
      omega
    have HD : Hid (SO w (w3.alloc (.cells #[.string p.name, .int .i64 p.low, .int .i64 p.next, (.slice Au p.seen.length Cu), .int .i64 2, .int .i64 0, .int .i64 0, .int .i64 0, .int .i64 0] 36)).drew p (some ⟨bb, oo, none⟩) C w3.heap.size (.slice Au p.seen.length Cu) p.low p.next 2 ⟨0, 0, 0⟩) := H3.out.1.below (Below.refl _ _).drew
    have hwo : w.heap.size ≠ w3.heap.size := by omega
    have hbo' : bb ≠ w3.heap.size := by omega
    have j1 : (0 : Int) ≤ (j : Int) := by omega
    have j2 : (j : Int) < (p.seen.length : Int) := by have := (List.getElem?_eq_some_iff.1 hj).1; omega
    clear hcel hj
    go_upto_region 6 with fail
    go_region_held3 (fun W => W.cell? ⟨w.heap.size, 0, none⟩ = some (.string p.name) ∧ W.cell? ⟨w.heap.size, 1, none⟩ = some (.int .i64 p.low) ∧ W.cell? ⟨w.heap.size, 2, none⟩ = some (.int .i64 p.next) ∧ W.cell? ⟨w.heap.size, 3, none⟩ = some (.slice (some ⟨bb, oo, none⟩) p.seen.length C) ∧ W.cell? ⟨bb, oo + j * 3, none⟩ = some (.int .i64 s2.number) ∧ W.cell? ⟨bb, oo + j * 3 + 1, none⟩ = some (.int .i64 s2.answer) ∧ W.cell? ⟨bb, oo + j * 3 + 2, none⟩ = some (.int .i64 s2.code)) (first | go_keep | exact ⟨kp567 z0 hwo _ _ _, kp567 z1 hwo _ _ _, kp567 z2 hwo _ _ _, kp567 z3 hwo _ _ _, kp567 t0 hbo' _ _ _, kp567 t1 hbo' _ _ _, kp567 t2 hbo' _ _ _⟩) (first | (go_at_call 31; refine (l07Find_any p _ k _ HD.out.q.row).mono ?_; rintro e w4 ⟨z, rfl, hz, hb4⟩; have hz1 := find_is hz HS2.out HG.out.2.1 HC.out.2; subst hz1; have so4 := HD.out.below hb4; obtain ⟨z0, z1, z2, z3⟩ := so4.q.pcells; obtain ⟨⟨_, _, _, _, _, n5, n6, n7, _⟩, nf⟩ := so4.cells; dsimp only at n5 n6 n7; have H4 : Hid (SO w w4 p (some ⟨bb, oo, none⟩) C w3.heap.size (.slice Au p.seen.length Cu) p.low p.next 2 ⟨0, 0, 0⟩ ∧ Below (w3.alloc (.cells #[.string p.name, .int .i64 p.low, .int .i64 p.next, (.slice Au p.seen.length Cu), .int .i64 2, .int .i64 0, .int .i64 0, .int .i64 0, .int .i64 0] 36)).heap.size (w3.alloc (.cells #[.string p.name, .int .i64 p.low, .int .i64 p.next, (.slice Au p.seen.length Cu), .int .i64 2, .int .i64 0, .int .i64 0, .int .i64 0, .int .i64 0] 36)) w4) := ⟨so4, undrewS hb4⟩; clear so4; obtain ⟨t0, t1, t2⟩ := HC.out.1.below (undrewS hb4)))
    all_goals
      have so5 := H4.out.1.set HR0.out.1 s2
      have H5 : Hid (SO w (((w4.setCell ⟨w3.heap.size, 5, none⟩ (.int .i64 s2.number)).setCell ⟨w3.heap.size, 6, none⟩ (.int .i64 s2.answer)).setCell ⟨w3.heap.size, 7, none⟩ (.int .i64 s2.code)) p (some ⟨bb, oo, none⟩) C w3.heap.size (.slice Au p.seen.length Cu) p.low p.next 2 s2) := so5
      clear o0 o1 o2 o3 o4 o5 o6 o7 o8 of y0 y1 y2 y3 r0 r1 r2 r3 r4 r5 r6 r7 r8 rf
      obtain ⟨⟨o0, o1, o2, o3, o4, o5, o6, o7, o8⟩, of⟩ := so5.cells
      obtain ⟨⟨r0, r1, r2, r3, r4, r5, r6, r7, r8⟩, rf⟩ := so5.q.rcells
      clear so5 q0 q1 q2 t0 t1 t2 z0 z1 z2 z3 n5 n6 n7 nf
      go_wp2
    all_goals
      refine bodyPost_ret (v := (takeT p k c).val (.slice Au p.seen.length Cu)) (by rw [HE.out]; simp [results, Try.results9, go_sem, Tk.val, r0, r1, r2, r3, r4, r5, r6, r7, r8]) rfl ⟨_, rfl, H3.out.2.2.1, ?_, set9_below H5.out.q.bel (by omega) _ _ _ _ _ _ _ _ _⟩
      rw [HE.out]
      have hL1 := H3.out.2.1
      have hL2 := (hL1.below ((Below.refl _ w3).alloc (Nat.le_refl _) (.cells #[.string p.name, .int .i64 p.low, .int .i64 p.next, (.slice Au p.seen.length Cu), .int .i64 2, .int .i64 0, .int .i64 0, .int .i64 0, .int .i64 0] 36))).below H4.out.2
      exact ⟨bu, by have := H3.out.2.2.2; omega, set9_lsn (set3_lsn hL2 (fun hn => by have := hL1.lt hn; omega) _ _ _) (by have := H3.out.2.2.2; omega) _ _ _ _ _ _ _ _ _⟩
  · have hnf : p.seen.find? (fun x => decide (x.number = k)) = none := by
      refine List.find?_eq_none.2 fun x hx => ?_
      have := (HG.out.2.2 x hx).1
      have h3 := HKD.out.1
      unfold kndZ at h3
      by_cases hlt : k < p.low
      · simp
        omega
      · rw [if_neg hlt] at h3
        split at h3 <;> omega
    have HE : Hid (takeT p k c = ⟨p, 3, ⟨0, 0, 0⟩, 0⟩) := by
      have h4 := takeT_old (c := c) HT.out.2.2 (by rw [← HKD.out.1]; omega)
      rw [hnf, ← HKD.out.1] at h4
      exact h4
    clear hnf
    go_wp2
    refine bodyPost_ret (v := (takeT p k c).val (.slice Au p.seen.length Cu)) (by rw [HE.out]; simp [results, Try.results9, go_sem, Tk.val, r0, r1, r2, r3, r4, r5, r6, r7, r8]) rfl ⟨_, rfl, H3.out.2.2.1, ?_, set9_below H3.out.1.q.bel (by omega) _ _ _ _ _ _ _ _ _⟩
    rw [HE.out]
    exact ⟨bu, by have := H3.out.2.2.2; omega, set9_lsn (H3.out.2.1.below ((Below.refl _ _).alloc (Nat.le_refl _) _)) (by have := H3.out.2.2.2; omega) _ _ _ _ _ _ _ _ _⟩
theorem take_spec (p : Ptn) (v : Value) (k c : Int) (w : World) (h : RPt w v p) (hv : Fair v) : Calls Try.prog 9 #[.agg #[.string p.name, .int .i64 p.low, .int .i64 p.next, v], .int .i64 k, .int .i64 c] w fun e w' => ∃ u, e = .returned ((takeT p k c).val u) ∧ Fair u ∧ RowSn w' u (takeT p k c).p.seen ∧ Below w.heap.size w w' :=
  (take_specL p v k c w h hv).mono fun _ _ ⟨u, h1, h2, ⟨_, _, h3⟩, h4⟩ => ⟨u, h1, h2, h3.row, h4⟩
end Go.Proofs.Ytbnjieppcojckaa
