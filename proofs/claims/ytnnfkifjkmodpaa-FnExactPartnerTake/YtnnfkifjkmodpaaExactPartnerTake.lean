/- FnExactPartnerTake returns true at every partner, number and code and leaves them as they were: PartnerTake answers as its model, writes into no argument, and its answer owns its memory; no condition. -/
import Derived.Test.YtnnfkifjkmodpaaSzPt
import Derived.Test.YtnnfkifjkmodpaaToPt
import Derived.Test.YtnnfkifjkmodpaaMkTk
import Derived.Test.YtnnfkifjkmodpaaPtkI
import Derived.Test.YtnnfkifjkmodpaaPtkS
import Derived.Test.YtnnfkifjkmodpaaOpenPt
import Derived.Deep.RegionHeld3
import Derived.Lib.SmallJoins
namespace Go.Proofs.Ytnnfkifjkmodpaa
open Go.ChangeShapes Go.WideShapes Go.ChangeAt Go.RowKit Go.Joins
open Go.ChangeMaps (open_string shut_string)
set_option linter.unusedVariables false
namespace fnExactPartnerTake
theorem box4c {W : World} {B T : Nat} {p : Ptn} {v : Value} (h : W.heap[B]? = some (.cells #[.string p.name, .int .i64 p.low, .int .i64 p.next, v] T)) : W.cell? ⟨B, 0, none⟩ = some (.string p.name) ∧ W.cell? ⟨B, 1, none⟩ = some (.int .i64 p.low) ∧ W.cell? ⟨B, 2, none⟩ = some (.int .i64 p.next) ∧ W.cell? ⟨B, 3, none⟩ = some (v) := by
  refine ⟨?_, ?_, ?_, ?_⟩ <;> simp [World.cell?, h]
theorem box9c {W : World} {B T : Nat} {t : Tk} {v : Value} (h : W.heap[B]? = some (.cells #[.string t.p.name, .int .i64 t.p.low, .int .i64 t.p.next, v, .int .i64 t.kind, .int .i64 t.seen.number, .int .i64 t.seen.answer, .int .i64 t.seen.code, .int .i64 t.code] T)) : W.cell? ⟨B, 0, none⟩ = some (.string t.p.name) ∧ W.cell? ⟨B, 1, none⟩ = some (.int .i64 t.p.low) ∧ W.cell? ⟨B, 2, none⟩ = some (.int .i64 t.p.next) ∧ W.cell? ⟨B, 3, none⟩ = some (v) ∧ W.cell? ⟨B, 4, none⟩ = some (.int .i64 t.kind) ∧ W.cell? ⟨B, 5, none⟩ = some (.int .i64 t.seen.number) ∧ W.cell? ⟨B, 6, none⟩ = some (.int .i64 t.seen.answer) ∧ W.cell? ⟨B, 7, none⟩ = some (.int .i64 t.seen.code) ∧ W.cell? ⟨B, 8, none⟩ = some (.int .i64 t.code) := by
  refine ⟨?_, ?_, ?_, ?_, ?_, ?_, ?_, ?_, ?_⟩ <;> simp [World.cell?, h]
/-- The argument's box, and what is kept from one call to the next: boxes, and a list that lay ahead of N. -/
structure LT (w W : World) (p : Ptn) (u : Value) (bx : List (Nat × Obj)) (N : Nat) (u3 : Value) (l3 : List Sn) : Prop where
  bel : Below w.heap.size w W
  ub : W.heap[w.heap.size]? = some (.cells #[.string p.name, .int .i64 p.low, .int .i64 p.next, u] 24)
  arg : RPt w u p
  bs : ∀ q ∈ bx, W.heap[q.1]? = some q.2
  r3 : ∃ W3, W3.heap.size = N ∧ RowSn W3 u3 l3 ∧ Below N W3 W
  le : w.heap.size + 1 ≤ N
theorem LT.row {w W : World} {p : Ptn} {u : Value} {bx : List (Nat × Obj)} {N : Nat} {u3 : Value} {l3 : List Sn} (h : LT w W p u bx N u3 l3) : RPt W u p := h.arg.below h.bel
theorem LT.row3 {w W : World} {p : Ptn} {u : Value} {bx : List (Nat × Obj)} {N : Nat} {u3 : Value} {l3 : List Sn} (h : LT w W p u bx N u3 l3) : RowSn W u3 l3 := by
  obtain ⟨W3, h1, h2, h3⟩ := h.r3
  subst h1
  exact h2.below h3
theorem LT.below {w W W' : World} {p : Ptn} {u : Value} {bx : List (Nat × Obj)} {N : Nat} {u3 : Value} {l3 : List Sn} (h : LT w W p u bx N u3 l3) (hb : Below W.heap.size W W') : LT w W' p u bx N u3 l3 := by
  obtain ⟨W3, h1, h2, h3⟩ := h.r3
  exact ⟨h.bel.trans (hb.mono h.bel.size), (hb.block _ (Array.getElem?_eq_some_iff.1 h.ub).1).trans h.ub, h.arg, fun q hq => (hb.block _ (Array.getElem?_eq_some_iff.1 (h.bs q hq)).1).trans (h.bs q hq), ⟨W3, h1, h2, h3.trans (hb.mono (by have := h3.size; omega))⟩, h.le⟩
theorem LT.keep {w W W' : World} {p : Ptn} {u : Value} {bx : List (Nat × Obj)} {N c : Nat} {u3 : Value} {l3 : List Sn} (h : LT w W p u bx N u3 l3) (hk : Keep c W W') (hc : N ≤ c) (hx : ∀ q ∈ bx, q.1 ≠ c) : LT w W' p u bx N u3 l3 := by
  obtain ⟨W3, h1, h2, h3⟩ := h.r3
  have hl := h.le
  have hs := h.bel.size
  have hub := (Array.getElem?_eq_some_iff.1 h.ub).1
  exact ⟨h.bel.trans (hk.below (by omega) (by omega)), (hk.block _ hub (by omega)).trans h.ub, h.arg, fun q hq => (hk.block _ (Array.getElem?_eq_some_iff.1 (h.bs q hq)).1 (hx q hq)).trans (h.bs q hq), ⟨W3, h1, h2, h3.trans (hk.below hc (by have := h3.size; omega))⟩, h.le⟩
theorem LT.made {w W : World} {p : Ptn} {u : Value} {bx : List (Nat × Obj)} {N : Nat} {u3 : Value} {l3 : List Sn} (h : LT w W p u bx N u3 l3) (o : Obj) : LT w (W.alloc o) p u ((W.heap.size, o) :: bx) N u3 l3 := by
  have h' := h.below ((Below.refl _ W).alloc (Nat.le_refl _) o)
  refine ⟨h'.bel, h'.ub, h.arg, fun q hq => ?_, h'.r3, h.le⟩
  rcases List.mem_cons.1 hq with rfl | hq
  · exact World.alloc_heap_new W _
  · exact h'.bs q hq
theorem LT.drew {w W : World} {p : Ptn} {u : Value} {bx : List (Nat × Obj)} {N : Nat} {u3 : Value} {l3 : List Sn} (h : LT w W p u bx N u3 l3) : LT w W.drew p u bx N u3 l3 := h.below (Below.refl _ _).drew
theorem ownFair {B : Nat} {W : World} {v : Value} {rs : List Sn} (h : OwnSn B W v rs) : Fair v := by
  obtain ⟨b, f, _, h2, _⟩ := h
  exact .inr ⟨_, _, _, h2⟩
theorem takeT_name {p : Ptn} {k c : Int} (h : p.name.size ≤ 9223372036854775807) : (takeT p k c).p.name.size ≤ 9223372036854775807 := by
  unfold takeT
  split
  · split
    · split
      · exact Nat.zero_le _
      · exact h
    · exact h
  · exact Nat.zero_le _
theorem takeT_len {p : Ptn} {k c : Int} : (takeT p k c).p.seen.length ≤ 33 := by
  cases hr : (ptnB p && (ctlB k && codeB c))
  · rw [takeT_form hr]
    exact Nat.zero_le _
  · have h := hr
    simp only [Bool.and_eq_true] at h
    by_cases h1 : kndZ p.low p.seen k = 1
    · by_cases h2 : p.next = 999999
      · rw [takeT_full hr h1 h2]
        exact Nat.zero_le _
      · rw [takeT_new hr h1 h2]
        exact (newPt_facts (c := c) h.1 (ctlB_iff.1 h.2.1) h1).2.1
    · rw [takeT_old hr h1]
      have := (ptnB_parts h.1).2.2.2.1
      show p.seen.length ≤ 33
      omega
set_option maxHeartbeats 16000000 in
theorem walk (p : Ptn) (u : Value) (k c : Int) (w : World) (h : RPt w u p) :
    Calls Try.prog 3 #[.agg #[.string p.name, .int .i64 p.low, .int .i64 p.next, u], .int .i64 k, .int .i64 c] w fun e w' => e = .returned (.bool true) ∧ Below w.heap.size w w' := by
  obtain ⟨A0, c0, rfl⟩ := h.ls.val
  have b1 : Below w.heap.size w (w.alloc (.cells #[.string p.name, .int .i64 p.low, .int .i64 p.next, (.slice A0 p.seen.length c0)] 24)) := (Below.refl _ _).alloc (Nat.le_refl _) _
  have h0 : LT w (w.alloc (.cells #[.string p.name, .int .i64 p.low, .int .i64 p.next, (.slice A0 p.seen.length c0)] 24)) p (.slice A0 p.seen.length c0) [] (w.heap.size + 1) (.slice none 0 0) [] := ⟨b1, World.alloc_heap_new w _, h, fun q hq => (by cases hq), ⟨w.alloc (.cells #[.string p.name, .int .i64 p.low, .int .i64 p.next, (.slice A0 p.seen.length c0)] 24), by simp, RowSn.nil _, by simpa using Below.refl _ _⟩, Nat.le_refl _⟩
  clear b1
  have hzn := h.z_name
  clear h
  go_enter Try.func3, Try.ntmps3
  go_wp2_with fail
  refine (szPt_any p _ 1048576 _ h0.row (by omega)).mono ?_
  rintro e w1 ⟨r, rfl, hr, hb1⟩
  have h1 := h0.below hb1
  clear hb1 h0
  rcases hr with rfl | ⟨g0, g1, hP⟩
  · have H1 : Hid (Below w.heap.size w w1) := h1.bel
    clear h1
    go_wp2
    go_ret
    exact ⟨rfl, H1.out⟩
  have g0' : ¬ r < 0 := by omega
  have HP : Hid (BdPt 1048576 p) := hP
  clear hP
  obtain ⟨t, ht⟩ : ∃ t, t = takeT p k c := ⟨_, rfl⟩
  have HTn : Hid (t = takeT p k c ∧ t.p.name.size ≤ 9223372036854775807 ∧ t.p.seen.length ≤ 33) := ⟨ht, by rw [ht]; exact takeT_name hzn, by rw [ht]; exact takeT_len⟩
  have CS : Hid (∀ (v : Value) (w : World), RPt w v p → Fair v → Calls Try.prog 7 #[.agg #[.string p.name, .int .i64 p.low, .int .i64 p.next, v], .int .i64 k, .int .i64 c] w fun e w' => ∃ u, e = .returned (t.val u) ∧ Fair u ∧ RowSn w' u t.p.seen ∧ Below w.heap.size w w') := by rw [ht]; exact fun v w h hv => take_spec p v k c w h hv
  have CI : Hid (∀ (v : Value) (w : World), RPt w v p → Calls Try.prog 9 #[.agg #[.string p.name, .int .i64 p.low, .int .i64 p.next, v], .int .i64 k, .int .i64 c] w fun e w' => ∃ u b, e = .returned (t.val u) ∧ w.heap.size ≤ b ∧ LSn b w' u t.p.seen ∧ Below w.heap.size w w') := by rw [ht]; exact fun v w h => take_impl p v k c w h
  clear ht
  obtain ⟨x0, x1, x2, x3⟩ := box4c (h1.ub)
  go_wp2_with fail
  refine (toPt_own p _ _ h1.row HP.out).mono ?_
  rintro e w2 ⟨v2, rfl, o2, hb2⟩
  have h2 := h1.below hb2
  clear x0 x1 x2 x3 h1 hb2
  go_wp2_with fail
  refine (CS.out v2 _ ⟨o2.row HP.out.2, hzn⟩ (ownFair o2)).mono ?_
  rintro e w3 ⟨u3, rfl, _, r3, hb3⟩
  obtain ⟨A3, C3, hv3⟩ := r3.val
  subst hv3
  have h3' := h2.below hb3
  have h3 : LT w w3 p (.slice A0 p.seen.length c0) [] w3.heap.size (.slice A3 t.p.seen.length C3) t.p.seen := ⟨h3'.bel, h3'.ub, h3'.arg, h3'.bs, ⟨w3, rfl, r3, Below.refl _ _⟩, (Array.getElem?_eq_some_iff.1 h3'.ub).1⟩
  clear h3' h2 hb3 r3 o2
  have B8 : LT w (w3.alloc (.cells #[.string t.p.name, .int .i64 t.p.low, .int .i64 t.p.next, (.slice A3 t.p.seen.length C3), .int .i64 t.kind, .int .i64 t.seen.number, .int .i64 t.seen.answer, .int .i64 t.seen.code, .int .i64 t.code] 32)) p (.slice A0 p.seen.length c0) [(w3.heap.size, .cells #[.string t.p.name, .int .i64 t.p.low, .int .i64 t.p.next, (.slice A3 t.p.seen.length C3), .int .i64 t.kind, .int .i64 t.seen.number, .int .i64 t.seen.answer, .int .i64 t.seen.code, .int .i64 t.code] 32)] w3.heap.size (.slice A3 t.p.seen.length C3) t.p.seen := h3.made _
  clear h3
  unfold Tk.val
  obtain ⟨x0, x1, x2, x3⟩ := box4c (B8.ub)
  go_wp2_with fail
  refine (toPt_own p _ _ B8.row HP.out).mono ?_
  rintro e w5 ⟨v5, rfl, o5, hb5⟩
  have h5 := B8.below hb5
  have hn5 : w3.heap.size + 1 ≤ w5.heap.size := by have := hb5.size; simpa using this
  obtain ⟨b5, f5, hl5, hv5, hR5, hf5⟩ := o5
  have hl5' : w3.heap.size + 1 ≤ b5 := by simpa using hl5
  have hb5lt := hR5.lt
  have l5 : LSn b5 w5 v5 p.seen := ⟨⟨_, _, hv5, fun _ => ⟨rfl, _, f5, hR5, Nat.le_refl _, hf5⟩⟩, by have := HP.out.2.len; omega⟩
  subst hv5
  clear x0 x1 x2 x3 B8 hb5 hl5 hf5 hR5
  have h6 := h5.made (.cells #[.string p.name, .int .i64 p.low, .int .i64 p.next, (.slice (some ⟨b5, 0, none⟩) p.seen.length p.seen.length)] 28)
  have l6 := l5.below ((Below.refl _ w5).alloc (Nat.le_refl _) (.cells #[.string p.name, .int .i64 p.low, .int .i64 p.next, (.slice (some ⟨b5, 0, none⟩) p.seen.length p.seen.length)] 28))
  obtain ⟨y0, y1, y2, y3⟩ := box4c (p := p) (v := (.slice (some ⟨b5, 0, none⟩) p.seen.length p.seen.length)) (T := 28) (h6.bs (w5.heap.size, .cells #[.string p.name, .int .i64 p.low, .int .i64 p.next, (.slice (some ⟨b5, 0, none⟩) p.seen.length p.seen.length)] 28) (by simp))
  clear h5 l5
  go_wp2_with fail
  refine (CI.out _ _ ⟨l6.row, hzn⟩).mono ?_
  rintro e w7 ⟨u7, b70, rfl, hl7, l70, hb7⟩
  obtain ⟨A7, C7, hv7⟩ := l70.val
  subst hv7
  have hn7 : w5.heap.size + 1 ≤ w7.heap.size := by have := hb7.size; simpa using this
  obtain ⟨b7, hl7', hb7ne, l7⟩ : ∃ b7, w5.heap.size + 1 ≤ b7 ∧ b7 ≠ w7.heap.size ∧ LSn b7 w7 (.slice A7 t.p.seen.length C7) t.p.seen := by
    by_cases he : t.p.seen = []
    · refine ⟨w7.heap.size + 1, by omega, by omega, ?_⟩
      obtain ⟨a, cap, e1, _⟩ := l70.shape
      exact ⟨⟨a, cap, e1, fun hn => absurd he hn⟩, l70.len⟩
    · exact ⟨b70, by simpa using hl7, by have := l70.lt he; omega, l70⟩
  have h7 := h6.below hb7
  have m7 := l6.below hb7
  clear y0 y1 y2 y3 h6 l6 hb7 l70 hl7
  have h8 := h7.made (.cells #[.string t.p.name, .int .i64 t.p.low, .int .i64 t.p.next, (.slice A7 t.p.seen.length C7), .int .i64 t.kind, .int .i64 t.seen.number, .int .i64 t.seen.answer, .int .i64 t.seen.code, .int .i64 t.code] 32)
  have m8 := m7.below ((Below.refl _ w7).alloc (Nat.le_refl _) (.cells #[.string t.p.name, .int .i64 t.p.low, .int .i64 t.p.next, (.slice A7 t.p.seen.length C7), .int .i64 t.kind, .int .i64 t.seen.number, .int .i64 t.seen.answer, .int .i64 t.seen.code, .int .i64 t.code] 32))
  have l8 := l7.below ((Below.refl _ w7).alloc (Nat.le_refl _) (.cells #[.string t.p.name, .int .i64 t.p.low, .int .i64 t.p.next, (.slice A7 t.p.seen.length C7), .int .i64 t.kind, .int .i64 t.seen.number, .int .i64 t.seen.answer, .int .i64 t.seen.code, .int .i64 t.code] 32))
  obtain ⟨z0, z1, z2, z3, z4, z5, z6, z7, z8⟩ := box9c (t := t) (v := (.slice A7 t.p.seen.length C7)) (T := 32) (h8.bs (w7.heap.size, .cells #[.string t.p.name, .int .i64 t.p.low, .int .i64 t.p.next, (.slice A7 t.p.seen.length C7), .int .i64 t.kind, .int .i64 t.seen.number, .int .i64 t.seen.answer, .int .i64 t.seen.code, .int .i64 t.code] 32) (by simp))
  obtain ⟨o0, o1, o2, o3, o4, o5, o6, o7, o8⟩ := box9c (t := t) (v := (.slice A3 t.p.seen.length C3)) (T := 32) (h8.bs (w3.heap.size, .cells #[.string t.p.name, .int .i64 t.p.low, .int .i64 t.p.next, (.slice A3 t.p.seen.length C3), .int .i64 t.kind, .int .i64 t.seen.number, .int .i64 t.seen.answer, .int .i64 t.seen.code, .int .i64 t.code] 32) (by simp))
  clear h7 m7 l7
  unfold Tk.val
  go_wp2_with fail
  refine (eqTk_any t (.slice A7 t.p.seen.length C7) (.slice A3 t.p.seen.length C3) _ ⟨l8.row, HTn.out.2.1⟩ ⟨h8.row3, HTn.out.2.1⟩).mono ?_
  rintro e w9 ⟨rfl, hb9⟩
  have h9 := h8.below hb9
  have m9 := m8.below hb9
  have l9 := l8.below hb9
  clear z0 z1 z2 z3 z4 z5 z6 z7 z8 o0 o1 o2 o3 o4 o5 o6 o7 o8 h8 m8 l8 hb9
  obtain ⟨x0, x1, x2, x3⟩ := box4c (h9.ub)
  obtain ⟨y0, y1, y2, y3⟩ := box4c (p := p) (v := (.slice (some ⟨b5, 0, none⟩) p.seen.length p.seen.length)) (T := 28) (h9.bs (w5.heap.size, .cells #[.string p.name, .int .i64 p.low, .int .i64 p.next, (.slice (some ⟨b5, 0, none⟩) p.seen.length p.seen.length)] 28) (by simp))
  go_wp2_with fail
  go_region_held3 (fun W => W.cell? ⟨w.heap.size, 0, none⟩ = some (.string p.name) ∧ W.cell? ⟨w.heap.size, 1, none⟩ = some (.int .i64 p.low) ∧ W.cell? ⟨w.heap.size, 2, none⟩ = some (.int .i64 p.next) ∧ W.cell? ⟨w.heap.size, 3, none⟩ = some ((.slice A0 p.seen.length c0)) ∧ W.cell? ⟨w5.heap.size, 0, none⟩ = some (.string p.name) ∧ W.cell? ⟨w5.heap.size, 1, none⟩ = some (.int .i64 p.low) ∧ W.cell? ⟨w5.heap.size, 2, none⟩ = some (.int .i64 p.next) ∧ W.cell? ⟨w5.heap.size, 3, none⟩ = some ((.slice (some ⟨b5, 0, none⟩) p.seen.length p.seen.length))) (go_keep) (first | (go_at_call_of 8 (Value.agg #[.string p.name, .int .i64 p.low, .int .i64 p.next, (.slice A0 p.seen.length c0)]); refine (toPt_any p _ _ h9.drew.row HP.out).mono ?_; rintro e wj ⟨vaj, rfl, rj, hb⟩; have hj := h9.drew.below hb; have mj := (m9.below (Below.refl _ _).drew).below hb; have lj := (l9.below (Below.refl _ _).drew).below hb; clear hb; obtain ⟨xj0, xj1, xj2, xj3⟩ := box4c (hj.ub); obtain ⟨yj0, yj1, yj2, yj3⟩ := box4c (p := p) (v := (.slice (some ⟨b5, 0, none⟩) p.seen.length p.seen.length)) (T := 28) (hj.bs (w5.heap.size, .cells #[.string p.name, .int .i64 p.low, .int .i64 p.next, (.slice (some ⟨b5, 0, none⟩) p.seen.length p.seen.length)] 28) (by simp))) | (go_at_call 11; refine (eqPt_any p _ _ _ ⟨mj.row, hzn⟩ rj).mono ?_; rintro e wg ⟨rfl, hb⟩; have hg := hj.below hb; have mg := mj.below hb; have lg := lj.below hb; clear hb; obtain ⟨xg0, xg1, xg2, xg3⟩ := box4c (hg.ub); obtain ⟨yg0, yg1, yg2, yg3⟩ := box4c (p := p) (v := (.slice (some ⟨b5, 0, none⟩) p.seen.length p.seen.length)) (T := 28) (hg.bs (w5.heap.size, .cells #[.string p.name, .int .i64 p.low, .int .i64 p.next, (.slice (some ⟨b5, 0, none⟩) p.seen.length p.seen.length)] 28) (by simp))))
  rename_i hHeld
  clear hHeld h9 m9 l9 x0 x1 x2 x3 y0 y1 y2 y3 xj0 xj1 xj2 xj3 yj0 yj1 yj2 yj3
  go_wp2_with fail
  refine (markPt_any b5 _ p 1 _ mg (by have := HP.out.2.len; omega)).mono ?_
  rintro e wm ⟨rfl, _, hkm⟩
  have hm := hg.keep hkm (by omega) (fun q hq => by simp only [List.mem_cons, List.not_mem_nil, or_false] at hq; rcases hq with rfl | rfl | rfl <;> simp <;> omega)
  have lm := lg.keep hkm (by omega)
  obtain ⟨K1, hK1⟩ : ∃ K1 : Int, K1 = 1 + ((p.seen.length * 3 : Nat) : Int) := ⟨_, rfl⟩
  rw [← hK1]
  have hK0 : ¬ K1 < 0 := by omega
  clear hK1 hg mg lg hkm xg0 xg1 xg2 xg3 yg0 yg1 yg2 yg3
  obtain ⟨z0, z1, z2, z3, z4, z5, z6, z7, z8⟩ := box9c (t := t) (v := (.slice A7 t.p.seen.length C7)) (T := 32) (hm.bs (w7.heap.size, .cells #[.string t.p.name, .int .i64 t.p.low, .int .i64 t.p.next, (.slice A7 t.p.seen.length C7), .int .i64 t.kind, .int .i64 t.seen.number, .int .i64 t.seen.answer, .int .i64 t.seen.code, .int .i64 t.code] 32) (by simp))
  obtain ⟨o0, o1, o2, o3, o4, o5, o6, o7, o8⟩ := box9c (t := t) (v := (.slice A3 t.p.seen.length C3)) (T := 32) (hm.bs (w3.heap.size, .cells #[.string t.p.name, .int .i64 t.p.low, .int .i64 t.p.next, (.slice A3 t.p.seen.length C3), .int .i64 t.kind, .int .i64 t.seen.number, .int .i64 t.seen.answer, .int .i64 t.seen.code, .int .i64 t.code] 32) (by simp))
  go_wp2_with fail
  refine (eqTk_any t (.slice A7 t.p.seen.length C7) (.slice A3 t.p.seen.length C3) _ ⟨lm.row, HTn.out.2.1⟩ ⟨hm.row3, HTn.out.2.1⟩).mono ?_
  rintro e w12 ⟨rfl, hb12⟩
  have h12 := hm.below hb12
  have l12 := lm.below hb12
  clear z0 z1 z2 z3 z4 z5 z6 z7 z8 o0 o1 o2 o3 o4 o5 o6 o7 o8 hm lm hb12
  obtain ⟨z0, z1, z2, z3, z4, z5, z6, z7, z8⟩ := box9c (t := t) (v := (.slice A7 t.p.seen.length C7)) (T := 32) (h12.bs (w7.heap.size, .cells #[.string t.p.name, .int .i64 t.p.low, .int .i64 t.p.next, (.slice A7 t.p.seen.length C7), .int .i64 t.kind, .int .i64 t.seen.number, .int .i64 t.seen.answer, .int .i64 t.seen.code, .int .i64 t.code] 32) (by simp))
  obtain ⟨n, hn⟩ : ∃ n, n = t.p.seen.length := ⟨_, rfl⟩
  have HNn : Hid (n = t.p.seen.length ∧ n ≤ 33) := ⟨hn, by rw [hn]; exact HTn.out.2.2⟩
  go_wp2_with fail
  refine (markTk_any b7 (.slice A7 t.p.seen.length C7) t 1 _ l12 (by have := HTn.out.2.2; omega)).mono ?_
  rintro e w13 ⟨rfl, l13, hk13⟩
  have h13 := h12.keep hk13 (by omega) (fun q hq => by simp only [List.mem_cons, List.not_mem_nil, or_false] at hq; rcases hq with rfl | rfl | rfl <;> simp <;> omega)
  obtain ⟨K2, hK2⟩ : ∃ K2 : Int, K2 = 1 + ((t.p.seen.length * 3 : Nat) : Int) := ⟨_, rfl⟩
  have HK2 : Hid (K2 = 1 + ((t.p.seen.length * 3 : Nat) : Int)) := hK2
  rw [← hK2]
  have hK20 : ¬ K2 < 0 := by omega
  have HH : Hid (∀ (W : World), RowSn W (.slice A7 t.p.seen.length C7) (mkSns 1 t.p.seen.length) → Calls Try.prog 14 #[.agg #[.string t.p.name, .int .i64 t.p.low, .int .i64 t.p.next, (.slice A7 t.p.seen.length C7), .int .i64 t.kind, .int .i64 t.seen.number, .int .i64 t.seen.answer, .int .i64 t.seen.code, .int .i64 t.code], .int .i64 1] W fun e w' => e = .returned (.int .i64 K2) ∧ Below W.heap.size W w') := by
    intro W hW
    rw [hK2]
    exact heldTk_any (.slice A7 t.p.seen.length C7) t t.p.seen.length 1 W hW (by have := HTn.out.2.2; omega)
  clear hK2 h12 l12 hk13 z0 z1 z2 z3 z4 z5 z6 z7 z8 hn
  obtain ⟨z0, z1, z2, z3, z4, z5, z6, z7, z8⟩ := box9c (t := t) (v := (.slice A7 t.p.seen.length C7)) (T := 32) (h13.bs (w7.heap.size, .cells #[.string t.p.name, .int .i64 t.p.low, .int .i64 t.p.next, (.slice A7 t.p.seen.length C7), .int .i64 t.kind, .int .i64 t.seen.number, .int .i64 t.seen.answer, .int .i64 t.seen.code, .int .i64 t.code] 32) (by simp))
  go_wp2_with fail
  refine (HH.out _ l13.row).mono ?_
  rintro e w14 ⟨rfl, hb14⟩
  have h14 := h13.below hb14
  have l14 := l13.below hb14
  clear z0 z1 z2 z3 z4 z5 z6 z7 z8 h13 l13 hb14
  obtain ⟨x0, x1, x2, x3⟩ := box4c (h14.ub)
  go_wp2_with fail
  refine (toPt_own p _ _ h14.row HP.out).mono ?_
  rintro e w15 ⟨v15, rfl, o15, hb15⟩
  have h15 := h14.below hb15
  have l15 := l14.below hb15
  clear x0 x1 x2 x3 h14 l14 hb15
  go_wp2_with fail
  refine (CI.out _ _ ⟨o15.row HP.out.2, hzn⟩).mono ?_
  rintro e w16 ⟨u16, b16, rfl, _, l16, hb16⟩
  obtain ⟨A16, C16, hv16⟩ := l16.val
  subst hv16
  have h16 := (h15.below hb16).made (.cells #[.string t.p.name, .int .i64 t.p.low, .int .i64 t.p.next, (.slice A16 t.p.seen.length C16), .int .i64 t.kind, .int .i64 t.seen.number, .int .i64 t.seen.answer, .int .i64 t.seen.code, .int .i64 t.code] 32)
  have l16' := l16.below ((Below.refl _ w16).alloc (Nat.le_refl _) (.cells #[.string t.p.name, .int .i64 t.p.low, .int .i64 t.p.next, (.slice A16 t.p.seen.length C16), .int .i64 t.kind, .int .i64 t.seen.number, .int .i64 t.seen.answer, .int .i64 t.seen.code, .int .i64 t.code] 32))
  have l17 := (l15.below hb16).below ((Below.refl _ w16).alloc (Nat.le_refl _) (.cells #[.string t.p.name, .int .i64 t.p.low, .int .i64 t.p.next, (.slice A16 t.p.seen.length C16), .int .i64 t.kind, .int .i64 t.seen.number, .int .i64 t.seen.answer, .int .i64 t.seen.code, .int .i64 t.code] 32))
  clear h15 l15 hb16 l16 o15
  obtain ⟨z0, z1, z2, z3, z4, z5, z6, z7, z8⟩ := box9c (t := t) (v := (.slice A16 t.p.seen.length C16)) (T := 32) (h16.bs (w16.heap.size, .cells #[.string t.p.name, .int .i64 t.p.low, .int .i64 t.p.next, (.slice A16 t.p.seen.length C16), .int .i64 t.kind, .int .i64 t.seen.number, .int .i64 t.seen.answer, .int .i64 t.seen.code, .int .i64 t.code] 32) (by simp))
  obtain ⟨o0, o1, o2, o3, o4, o5, o6, o7, o8⟩ := box9c (t := t) (v := (.slice A3 t.p.seen.length C3)) (T := 32) (h16.bs (w3.heap.size, .cells #[.string t.p.name, .int .i64 t.p.low, .int .i64 t.p.next, (.slice A3 t.p.seen.length C3), .int .i64 t.kind, .int .i64 t.seen.number, .int .i64 t.seen.answer, .int .i64 t.seen.code, .int .i64 t.code] 32) (by simp))
  unfold Tk.val
  go_wp2_with fail
  refine (eqTk_any t (.slice A16 t.p.seen.length C16) (.slice A3 t.p.seen.length C3) _ ⟨l16'.row, HTn.out.2.1⟩ ⟨h16.row3, HTn.out.2.1⟩).mono ?_
  rintro e w18 ⟨rfl, hb18⟩
  have h18 := h16.below hb18
  have l18 := l17.below hb18
  clear z0 z1 z2 z3 z4 z5 z6 z7 z8 o0 o1 o2 o3 o4 o5 o6 o7 o8 h16 l16' l17 hb18
  obtain ⟨z0, z1, z2, z3, z4, z5, z6, z7, z8⟩ := box9c (t := t) (v := (.slice A7 t.p.seen.length C7)) (T := 32) (h18.bs (w7.heap.size, .cells #[.string t.p.name, .int .i64 t.p.low, .int .i64 t.p.next, (.slice A7 t.p.seen.length C7), .int .i64 t.kind, .int .i64 t.seen.number, .int .i64 t.seen.answer, .int .i64 t.seen.code, .int .i64 t.code] 32) (by simp))
  go_wp2_with fail
  refine (HH.out _ l18.row).mono ?_
  rintro e w19 ⟨rfl, hb19⟩
  have HE : Hid (Below w.heap.size w w19) := (h18.below hb19).bel
  clear z0 z1 z2 z3 z4 z5 z6 z7 z8 h18 l18 hb19
  go_wp2
  go_ret
  exact ⟨rfl, HE.out⟩
theorem own : ownKnob Try.prog.godebug = none := by kernel_rfl
theorem laidOut : laidOutB Try.prog = true := by kernel_rfl
set_option maxRecDepth 100000 in
theorem lifted (os : Os) (started : os.Started) (H : Type) (enc : TypeId × Value → H) :
    ReturnsInHanded {} Try.checked os 3 .any (Rows.fnExactPartnerTakeSpec.pre6 enc Try.prog Try.f3 Rows.fnExactPartnerTakeRow.domain false) (Rows.fnExactPartnerTakeSpec.post enc Try.prog Try.f3 false true false false) := by
  refine returnsInHanded_of_change (C := Try.checked) own started (by kernel_rfl) Try.func3
    (ChangeSpec.witness6 (enc := enc) (C := Try.checked) false ⟨#[], #[.agg #[.string ⟨#[]⟩, .int .i64 0, .int .i64 0, .slice none 0 0], .int .i64 0, .int .i64 0], []⟩ 8 (by kernel_rfl) (by kernel_rfl) (by kernel_rfl) (by kernel_rfl)) ?_
  intro W base args ds gs before hval0 hW hcnd _
  have hval : ∀ (j : Nat) t v, Try.f3.params[j]? = some t → args[j]? = some v → Value.okWide Try.prog W .any base t v := hval0
  have hW' := hW
  obtain ⟨p, q, hA0, hV, rfl, hfz, hnd⟩ := hW
  have hA : DataW.TrodAll enc Try.prog W 0 (fun _ => true) true Try.f3.params.toList args.toList ds p := hA0
  rw [Try.params3] at hA hval
  obtain ⟨v0, vs0, d0, ds0, p0, q0, hargs, rfl, rfl, h0, r0⟩ := trodAll_cons hA
  obtain ⟨v1, vs1, d1, ds1, p1, q1, rfl, rfl, rfl, h1, r1⟩ := trodAll_cons r0
  obtain ⟨v2, vs2, d2, ds2, p2, q2, rfl, rfl, rfl, h2, r2⟩ := trodAll_cons r1
  obtain ⟨rfl, rfl, rfl⟩ := trodAll_nil r2
  obtain rfl : args = #[v0, v1, v2] := by cases args; simp_all
  obtain ⟨rfl, rfl⟩ := trodVars_none hV
  have k0 := h0
  have lt0 : ∀ x ∈ p0, x.block < W.heap.size := by obtain ⟨m, hm⟩ := k0; exact DataW.trod_lt m _ _ _ hm
  obtain ⟨q0, up0, rfl, hr0⟩ := openPta (hval 0 24 v0 rfl rfl) h0
  have k1 := h1
  have lt1 : ∀ x ∈ p1, x.block < W.heap.size := by obtain ⟨m, hm⟩ := k1; exact DataW.trod_lt m _ _ _ hm
  obtain ⟨n1, rfl⟩ : ∃ n : Int, v1 = .int .i64 n := by
    obtain ⟨n, rfl, _, _, _⟩ := open_int Try.underlying2 (hval 1 2 v1 rfl rfl) h1
    exact ⟨n, rfl⟩
  have k2 := h2
  have lt2 : ∀ x ∈ p2, x.block < W.heap.size := by obtain ⟨m, hm⟩ := k2; exact DataW.trod_lt m _ _ _ hm
  obtain ⟨n2, rfl⟩ : ∃ n : Int, v2 = .int .i64 n := by
    obtain ⟨n, rfl, _, _, _⟩ := open_int Try.underlying2 (hval 2 2 v2 rfl rfl) h2
    exact ⟨n, rfl⟩
  clear hA0 hval0
  refine (walk q0 up0 n1 n2 W hr0).mono fun e W' ⟨he, bel⟩ => ?_
  subst he
  exact ⟨_, rfl, _, _, _, [], _, [], hW', trodAll_mk1 (shut_bool Try.underlying4 _), (trodAll_cons_mk (Below.trod laidOut (by kernel_rfl) (of_decide_eq_true (by kernel_rfl)) k0 bel lt0) (trodAll_cons_mk (Below.trod laidOut (by kernel_rfl) (of_decide_eq_true (by kernel_rfl)) k1 bel lt1) (trodAll_cons_mk (Below.trod laidOut (by kernel_rfl) (of_decide_eq_true (by kernel_rfl)) k2 bel lt2) trodAll_mk0))), rfl, bel.frame _, fun h => by cases h⟩
theorem over : Rows.fnExactPartnerTakeRow.holds Try.pinned (OpenSpec.ofChange Rows.fnExactPartnerTakeSpec) :=
  OpenClaim.holds_of_wide 3 Try.f3 rfl rfl rfl rfl rfl rfl rfl ⟨rfl, rfl, rfl, rfl, rfl⟩ rfl rfl rfl rfl rfl (by kernel_rfl) Try.func3 (by kernel_rfl)
    (of_decide_eq_true (by kernel_rfl)) (by unfold Func.isWrapper; first | (rw [if_pos (by decide +kernel)]; kernel_rfl) | (rw [if_neg (by decide +kernel)]; exact ⟨rfl, rfl⟩))
    (fun os started H enc _ => lifted os started H enc)
end fnExactPartnerTake
theorem fnExactPartnerTake_holds : Rows.FnExactPartnerTakeSaid := fnExactPartnerTake.over
#print axioms fnExactPartnerTake_holds
end Go.Proofs.Ytnnfkifjkmodpaa
