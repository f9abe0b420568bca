/- Texts of ours put together: RdZ, RdTz. -/
import Derived.Test.YtjnikogaleofaaaDoorG35
import Derived.Test.YtjnikogaleofaaaDoorG25
import Derived.Test.YtjnikogaleofaaaDoorG22
namespace Go.Proofs.YtjnikogaleofaaaDoor
open Go.ChangeShapes Go.WideShapes Go.ChangeAt Go.RowKit
/-- What is read behind a head: code, place, bundles. -/
def rdAll (n : Int) (gs : List Seg) : Int × Nat × List Bun := ((rdIx n (gs.drop 1) 0 ⟨[], 0, 0, [], 0, []⟩).1, 1 + (rdIx n (gs.drop 1) 0 ⟨[], 0, 0, [], 0, []⟩).2.1, (rdIx n (gs.drop 1) 0 ⟨[], 0, 0, [], 0, []⟩).2.2)
/-- What IxRead tells: e in the world w', whose rows of its own lie from w's end on. -/
def RdOut (gs : List Seg) (w : World) (e : Ending) (w' : World) : Prop :=
  ((hdO gs).2.2.2.1 = false ∧ e = .returned (hdV (hdO gs))) ∨
  ((hdO gs).2.2.2.1 = true ∧ (((rdAll (hdO gs).2.2.1 gs).1 ≠ 0 ∧ e = .returned (.agg #[.string (hdO gs).1, .string (hdO gs).2.1, .int .i64 (hdO gs).2.2.1, .slice none 0 0, .bool true, .int .i64 ((rdAll (hdO gs).2.2.1 gs).2.1 : Int), .int .i64 (rdAll (hdO gs).2.2.1 gs).1])) ∨
    ((rdAll (hdO gs).2.2.1 gs).1 = 0 ∧ ∃ N Ab Cb bs, e = .returned (.agg #[.string (hdO gs).1, .string (hdO gs).2.1, .int .i64 (hdO gs).2.2.1, .slice Ab bs.length Cb, .bool true, .int .i64 0, .int .i64 0]) ∧ w.heap.size ≤ N ∧ bs.map (·.1) = (rdAll (hdO gs).2.2.1 gs).2.2 ∧ bs.length ≤ 5 ∧ OwnBs N w' (.slice Ab bs.length Cb) bs)))
theorem hdO_cons (tag : ByteArray) (es : List (List ByteArray)) (r : List Seg) : hdO ((tag, es) :: r) = if 400 < r.length + 1 then ((⟨#[]⟩, ⟨#[]⟩, 0, false, 2) : ByteArray × ByteArray × Int × Bool × Int) else match hdT tag es with
    | some (a, b, n) => (a, b, n, true, 0)
    | none => (⟨#[]⟩, ⟨#[]⟩, 0, false, 3) := by
  rw [hdO]
  split
  · rfl
  · cases hdT tag es <;> rfl
theorem bdE_txtR {es : List (List ByteArray)} (h : BdE 1048576 es) : ∀ e ∈ es, ∀ t ∈ e, t.size ≤ 1048576 := fun e he t ht => by
  obtain ⟨i, hi⟩ := List.mem_iff_getElem?.1 he
  obtain ⟨j, hj⟩ := List.mem_iff_getElem?.1 ht
  exact (h.2 i e hi).2 j t hj
theorem hdO_head {gs : List Seg} (h : (hdO gs).2.2.2.1 = true) : ∃ g r, gs = g :: r ∧ gs.length ≤ 400 ∧ (hdO gs).2.2.2.2 = 0 ∧ 1 ≤ (hdO gs).2.2.1 ∧ (hdO gs).2.2.1 ≤ 999999 := by
  cases gs with
  | nil => simp [hdO] at h
  | cons g r =>
    obtain ⟨tag, es⟩ := g
    rw [hdO_cons] at h ⊢
    by_cases h4 : 400 < r.length + 1
    · rw [if_pos h4] at h; cases h
    · rw [if_neg h4] at h ⊢
      cases hd : hdT tag es with
      | none => rw [hd] at h; cases h
      | some q =>
        obtain ⟨a, b, n⟩ := q
        have := hdT_some hd
        exact ⟨_, _, rfl, by simp; omega, rfl, this.2.1, this.2.2.1⟩
theorem hdO_no {gs : List Seg} (h : (hdO gs).2.2.2.1 = false) : (hdO gs).1 = ⟨#[]⟩ ∧ (hdO gs).2.1 = ⟨#[]⟩ ∧ (hdO gs).2.2.1 = 0 := by
  cases gs with
  | nil => exact ⟨rfl, rfl, rfl⟩
  | cons g r =>
    obtain ⟨tag, es⟩ := g
    rw [hdO_cons] at h ⊢
    by_cases h4 : 400 < r.length + 1
    · rw [if_pos h4]; exact ⟨rfl, rfl, rfl⟩
    · rw [if_neg h4] at h ⊢
      cases hd : hdT tag es with
      | none => exact ⟨rfl, rfl, rfl⟩
      | some q => rw [hd] at h; cases h
theorem box7R {W : World} {b t : Nat} {x0 x1 x2 x3 x4 x5 x6 : Value} (h : W.heap[b]? = some (.cells #[x0, x1, x2, x3, x4, x5, x6] t)) : W.cell? ⟨b, 0, none⟩ = some x0 ∧ W.cell? ⟨b, 1, none⟩ = some x1 ∧ W.cell? ⟨b, 2, none⟩ = some x2 ∧ W.cell? ⟨b, 3, none⟩ = some x3 ∧ W.cell? ⟨b, 4, none⟩ = some x4 ∧ W.cell? ⟨b, 5, none⟩ = some x5 ∧ W.cell? ⟨b, 6, none⟩ = some x6 ∧ (∀ o, W.frozen? ⟨b, o, none⟩ = false) := by
  refine ⟨?_, ?_, ?_, ?_, ?_, ?_, ?_, fun o => by simp [World.frozen?, h]⟩ <;> simp [World.cell?, h]
theorem set7R {W : World} {B t : Nat} {z0 z1 z2 z3 z4 z5 z6 : Value} (v0 v1 v2 v3 v4 v5 v6 : Value) (hb : W.heap[B]? = some (.cells #[z0, z1, z2, z3, z4, z5, z6] t)) : (((((((W.setCell ⟨B, 0, none⟩ v0).setCell ⟨B, 1, none⟩ v1).setCell ⟨B, 2, none⟩ v2).setCell ⟨B, 3, none⟩ v3).setCell ⟨B, 4, none⟩ v4).setCell ⟨B, 5, none⟩ v5).setCell ⟨B, 6, none⟩ v6).heap[B]? = some (.cells #[v0, v1, v2, v3, v4, v5, v6] t) := by
  have h0 : (W.setCell ⟨B, 0, none⟩ v0).heap[B]? = some (.cells #[v0, z1, z2, z3, z4, z5, z6] t) := heap_setCell_same _ B 0 _ t v0 hb
  have h1 : ((W.setCell ⟨B, 0, none⟩ v0).setCell ⟨B, 1, none⟩ v1).heap[B]? = some (.cells #[v0, v1, z2, z3, z4, z5, z6] t) := heap_setCell_same _ B 1 _ t v1 h0
  have h2 : (((W.setCell ⟨B, 0, none⟩ v0).setCell ⟨B, 1, none⟩ v1).setCell ⟨B, 2, none⟩ v2).heap[B]? = some (.cells #[v0, v1, v2, z3, z4, z5, z6] t) := heap_setCell_same _ B 2 _ t v2 h1
  have h3 : ((((W.setCell ⟨B, 0, none⟩ v0).setCell ⟨B, 1, none⟩ v1).setCell ⟨B, 2, none⟩ v2).setCell ⟨B, 3, none⟩ v3).heap[B]? = some (.cells #[v0, v1, v2, v3, z4, z5, z6] t) := heap_setCell_same _ B 3 _ t v3 h2
  have h4 : (((((W.setCell ⟨B, 0, none⟩ v0).setCell ⟨B, 1, none⟩ v1).setCell ⟨B, 2, none⟩ v2).setCell ⟨B, 3, none⟩ v3).setCell ⟨B, 4, none⟩ v4).heap[B]? = some (.cells #[v0, v1, v2, v3, v4, z5, z6] t) := heap_setCell_same _ B 4 _ t v4 h3
  have h5 : ((((((W.setCell ⟨B, 0, none⟩ v0).setCell ⟨B, 1, none⟩ v1).setCell ⟨B, 2, none⟩ v2).setCell ⟨B, 3, none⟩ v3).setCell ⟨B, 4, none⟩ v4).setCell ⟨B, 5, none⟩ v5).heap[B]? = some (.cells #[v0, v1, v2, v3, v4, v5, z6] t) := heap_setCell_same _ B 5 _ t v5 h4
  have h6 : (((((((W.setCell ⟨B, 0, none⟩ v0).setCell ⟨B, 1, none⟩ v1).setCell ⟨B, 2, none⟩ v2).setCell ⟨B, 3, none⟩ v3).setCell ⟨B, 4, none⟩ v4).setCell ⟨B, 5, none⟩ v5).setCell ⟨B, 6, none⟩ v6).heap[B]? = some (.cells #[v0, v1, v2, v3, v4, v5, v6] t) := heap_setCell_same _ B 6 _ t v6 h5
  exact h6
theorem bel7R {n B : Nat} {a W : World} (v0 v1 v2 v3 v4 v5 v6 : Value) (h : Below n a W) (hB : n ≤ B) : Below n a (((((((W.setCell ⟨B, 0, none⟩ v0).setCell ⟨B, 1, none⟩ v1).setCell ⟨B, 2, none⟩ v2).setCell ⟨B, 3, none⟩ v3).setCell ⟨B, 4, none⟩ v4).setCell ⟨B, 5, none⟩ v5).setCell ⟨B, 6, none⟩ v6) := ((((((h.setCell hB _).setCell hB _).setCell hB _).setCell hB _).setCell hB _).setCell hB _).setCell hB _
set_option maxRecDepth 100000 in
set_option maxHeartbeats 16000000 in
theorem ixRead_impl (v : Value) (gs : List Seg) (w : World) (h : RowG w v gs) (hB : ∀ g ∈ gs, g.1.size ≤ 1048576 ∧ BdE 1048576 g.2) (hE : ErrsAt w) (hT : TabOk w) (hl : gs.length ≤ 1000000) :
    Calls Tryd.prog 8 #[v] w fun e w' => RdOut gs w e w' ∧ Below w.heap.size w w' := by
  obtain ⟨A, C, rfl⟩ := h.val
  have hlen := h.len
  obtain ⟨W0, hW0⟩ : ∃ W0, w.alloc (.cells #[.string ⟨#[]⟩, .string ⟨#[]⟩, .int .i64 0, .slice none 0 0, .bool false, .int .i64 0, .int .i64 0] 38) = W0 := ⟨_, rfl⟩
  have hb0 : Below w.heap.size w W0 := by rw [← hW0]; exact (Below.refl _ _).alloc (Nat.le_refl _) _
  have hx0 : W0.heap[w.heap.size]? = some (.cells #[.string ⟨#[]⟩, .string ⟨#[]⟩, .int .i64 0, .slice none 0 0, .bool false, .int .i64 0, .int .i64 0] 38) := by rw [← hW0]; exact World.alloc_heap_new _ _
  have QH := headOf_impl (.slice A gs.length C) gs W0 (h.below hb0) (fun g hg e he t ht => bdE_txtR (hB g hg).2 e he t ht) (hE.below hb0)
  have H0 : Hid (RowG w (.slice A gs.length C) gs ∧ (∀ g ∈ gs, g.1.size ≤ 1048576 ∧ BdE 1048576 g.2) ∧ ErrsAt w ∧ TabOk w ∧ Below w.heap.size w W0 ∧ W0.heap[w.heap.size]? = some (.cells #[.string ⟨#[]⟩, .string ⟨#[]⟩, .int .i64 0, .slice none 0 0, .bool false, .int .i64 0, .int .i64 0] 38)) := ⟨h, hB, hE, hT, hb0, hx0⟩
  obtain ⟨o, ho⟩ : ∃ o, o = hdO gs := ⟨_, rfl⟩
  have HO : Hid (o = hdO gs) := ho
  rw [← ho] at QH
  unfold RdOut
  rw [← ho]
  clear h hB hE hT hb0 hx0 ho
  obtain ⟨a, b, n, hd, cd⟩ := o
  unfold hdV at QH ⊢
  dsimp only at QH ⊢
  go_enter Tryd.func8, Tryd.ntmps8
  go_wp2_with fail
  try rw [hW0]
  clear hW0
  refine QH.mono ?_
  rintro e w1 ⟨rfl, hb1⟩
  obtain ⟨W2, hW2⟩ : ∃ W2, w1.alloc (.cells #[.string a, .string b, .int .i64 n, .slice none 0 0, .bool hd, .int .i64 0, .int .i64 cd] 38) = W2 := ⟨_, rfl⟩
  have hb2 : Below W0.heap.size W0 W2 := by rw [← hW2]; exact hb1.alloc hb1.size _
  have hx2 : W2.heap[w1.heap.size]? = some (.cells #[.string a, .string b, .int .i64 n, .slice none 0 0, .bool hd, .int .i64 0, .int .i64 cd] 38) := by rw [← hW2]; exact World.alloc_heap_new _ _
  obtain ⟨B3, hB3⟩ : ∃ B3, B3 = w1.heap.size := ⟨_, rfl⟩
  rw [← hB3] at hx2
  have hs1 := hb1.size
  have hR0 := (Array.getElem?_eq_some_iff.1 H0.out.2.2.2.2.2).1
  have hrx := (hb2.block _ hR0).trans H0.out.2.2.2.2.2
  have H2 : Hid (Below w.heap.size w W2 ∧ W2.heap[B3]? = some (.cells #[.string a, .string b, .int .i64 n, .slice none 0 0, .bool hd, .int .i64 0, .int .i64 cd] 38) ∧ W2.heap[w.heap.size]? = some (.cells #[.string ⟨#[]⟩, .string ⟨#[]⟩, .int .i64 0, .slice none 0 0, .bool false, .int .i64 0, .int .i64 0] 38) ∧ w.heap.size < B3 ∧ B3 < W2.heap.size) := ⟨H0.out.2.2.2.2.1.trans (hb2.mono H0.out.2.2.2.2.1.size), hx2, hrx, by omega, (Array.getElem?_eq_some_iff.1 hx2).1⟩
  go_upto_region 2 with fail
  try rw [hW2]
  try rw [← hB3]
  clear hW2 hb2 hx2 hrx hb1 hB3 QH hs1 hR0
  obtain ⟨p0, p1, p2, p3, p4, p5, p6, pf⟩ := box7R H2.out.2.1
  obtain ⟨r0, r1, r2, r3, r4, r5, r6, rf⟩ := box7R H2.out.2.2.1
  have hne : w.heap.size ≠ B3 := by have := H2.out.2.2.2.1; omega
  cases hd with
  | false =>
    obtain ⟨f0, f1, f2, f3, f4, f5, f6, _⟩ := box7R (set7R (.string a) (.string b) (.int .i64 n) (.slice none 0 0) (.bool false) (.int .i64 0) (.int .i64 cd) H2.out.2.2.1)
    go_wp2
    refine bodyPost_ret (v := .agg #[.string a, .string b, .int .i64 n, .slice none 0 0, .bool false, .int .i64 0, .int .i64 cd]) (by simp [results, Tryd.results8, go_sem, f0, f1, f2, f3, f4, f5, f6]) rfl ⟨rfl, ?_⟩
    exact bel7R _ _ _ _ _ _ _ H2.out.1 (Nat.le_refl _)
  | true =>
    have hh := hdO_head (gs := gs) (by rw [← HO.out])
    rw [← HO.out] at hh
    obtain ⟨g0, r0', hgs, h400, hcd, hn1, hn2⟩ := hh
    dsimp only at hcd hn1 hn2
    subst hcd
    have hpos : 1 ≤ gs.length := by rw [hgs]; simp
    obtain ⟨a', cap', ev, hc⟩ := H0.out.1.shape
    simp only [Value.slice.injEq, true_and] at ev
    obtain ⟨rfl, rfl⟩ := ev
    obtain ⟨b9, o9, rfl, _⟩ := hc (by rw [hgs]; simp)
    clear hc hgs
    go_wp2_with fail
    refine (ixAround_any a b n none 0 0 W2).mono ?_
    rintro e w3 ⟨rfl, hb3⟩
    have hq3 := H2.out.1.trans (hb3.mono H2.out.1.size)
    have H3 : Hid (∀ W, Below w3.heap.size w3 W → W.heap[B3]? = some (.cells #[.string a, .string b, .int .i64 n, .slice none 0 0, .bool true, .int .i64 0, .int .i64 0] 38) ∧ W.heap[w.heap.size]? = some (.cells #[.string ⟨#[]⟩, .string ⟨#[]⟩, .int .i64 0, .slice none 0 0, .bool false, .int .i64 0, .int .i64 0] 38) ∧ Below w.heap.size w W) := fun W hW => by
      have hl3 := H2.out.2.2.2.2
      have hs3 := hb3.size
      have h1 := H2.out.2.2.2.1
      exact ⟨(hW.block B3 (by omega)).trans ((hb3.block B3 hl3).trans H2.out.2.1), (hW.block _ (by omega)).trans ((hb3.block _ (by omega)).trans H2.out.2.2.1), hq3.trans (hW.mono hq3.size)⟩
    obtain ⟨W4, hW4⟩ : ∃ W4, w3.alloc (.cells #[.slice (some ⟨b9, o9, none⟩) gs.length C, .int .i64 1, .int .i64 n, .string a, .string b, .slice none 0 0, .int .i64 0, .int .i64 0, .slice none 0 0, .int .i64 0, .slice none 0 0] 67) = W4 := ⟨_, rfl⟩
    have hb4 : Below w3.heap.size w3 W4 := by rw [← hW4]; exact (Below.refl _ _).alloc (Nat.le_refl _) _
    have hx4 : W4.heap[w3.heap.size]? = some (.cells #[.slice (some ⟨b9, o9, none⟩) gs.length C, .int .i64 1, .int .i64 n, .string a, .string b, .slice none 0 0, .int .i64 0, .int .i64 0, .slice none 0 0, .int .i64 0, .slice none 0 0] 67) := by rw [← hW4]; exact World.alloc_heap_new _ _
    have hz4 : w3.heap.size + 1 ≤ W4.heap.size := by rw [← hW4]; simp
    have QR := read_any w3.heap.size (w3.heap.size + 1) b9 o9 C n a b w3 gs (rdAll n gs).1 (rdAll n gs).2.1 (rdAll n gs).2.2 1 ⟨[], 0, 0, [], 0, []⟩ W4 (H0.out.1.below hq3) H0.out.2.1 (H0.out.2.2.2.1.below hq3) (H0.out.2.2.1.below hq3) hl (by omega) (by omega) (Nat.le_refl _) (Nat.lt_succ_self _) ⟨rfl, rfl, rfl⟩ ⟨none, 0, none, 0, 0, none, 0, 0, 0, 0, 0, [], rfl, by simp, hx4, OwnBs.nil _ _, hb4, hz4, hpos⟩
    obtain ⟨R, hR⟩ : ∃ R, R = w3.heap.size := ⟨_, rfl⟩
    obtain ⟨c, p, bsF, ht⟩ : ∃ c p bsF, rdAll n gs = (c, p, bsF) := ⟨_, _, _, rfl⟩
    rw [ht] at QR
    dsimp only at QR
    have HT : Hid (rdAll n gs = (c, p, bsF)) := ht
    have HR : Hid (R = w3.heap.size ∧ w.heap.size < B3 ∧ B3 < R ∧ w.heap.size ≤ R) := ⟨hR, H2.out.2.2.2.1, by have := H2.out.2.2.2.2; have := hb3.size; omega, by have := H2.out.2.2.2.1; have := H2.out.2.2.2.2; have := hb3.size; omega⟩
    clear hb3 hq3 hb4 hx4 hz4 ht p0 p1 p2 p3 p4 p5 p6 pf r0 r1 r2 r3 r4 r5 r6 rf
    have HW4 : Hid (w3.alloc (.cells #[.slice (some ⟨b9, o9, none⟩) gs.length C, .int .i64 1, .int .i64 n, .string a, .string b, .slice none 0 0, .int .i64 0, .int .i64 0, .slice none 0 0, .int .i64 0, .slice none 0 0] 67) = W4) := hW4
    clear hW4
    go_upto_region 5 with fail
    try rw [HW4.out]
    try rw [← hR]
    rw [← hR] at QR
    clear HW4 hR
    go_wp2_with fail
    refine QR.mono ?_
    rintro e w5 ⟨rfl, bv, x6, x7, x8, x9, x10, hx5, ho5, hb5, hn5⟩
    have H5 : Hid (w5.heap[R]? = some (.cells #[.slice (some ⟨b9, o9, none⟩) gs.length C, .int .i64 (p : Int), .int .i64 n, .string a, .string b, bv, x6, x7, x8, x9, x10] 67) ∧ (c = 0 → ∃ Ab Cb bs, bv = .slice Ab bs.length Cb ∧ bs.map (·.1) = bsF ∧ bs.length ≤ 5 ∧ OwnBs (R + 1) w5 (.slice Ab bs.length Cb) bs) ∧ Below w3.heap.size w3 w5) := ⟨hx5, ho5, hb5⟩
    obtain ⟨i1, i2, i3⟩ := H3.out w5 hb5
    have H6 : Hid (w5.heap[B3]? = some (.cells #[.string a, .string b, .int .i64 n, .slice none 0 0, .bool true, .int .i64 0, .int .i64 0] 38) ∧ w5.heap[w.heap.size]? = some (.cells #[.string ⟨#[]⟩, .string ⟨#[]⟩, .int .i64 0, .slice none 0 0, .bool false, .int .i64 0, .int .i64 0] 38) ∧ Below w.heap.size w w5) := ⟨i1, i2, i3⟩
    clear hx5 ho5 hb5 hn5 i1 i2 i3 QR
    obtain ⟨q0, q1, q2, q3, q4, q5, q6, q7, q8, q9, q10⟩ := box11R H5.out.1
    obtain ⟨p0, p1, p2, p3, p4, p5, p6, pf⟩ := box7R H6.out.1
    by_cases hc0 : c = 0
    · obtain ⟨Ab, Cb, bs, rfl, hbs, hbl, hO⟩ := H5.out.2.1 hc0
      subst hc0
      obtain ⟨W6, hW6⟩ : ∃ W6, w5.setCell ⟨B3, 3, none⟩ (.slice Ab bs.length Cb) = W6 := ⟨_, rfl⟩
      have h6 : W6.heap[B3]? = some (.cells #[.string a, .string b, .int .i64 n, .slice Ab bs.length Cb, .bool true, .int .i64 0, .int .i64 0] 38) := by rw [← hW6]; simp [World.setCell, Array.getElem?_modify, H6.out.1]
      have h6r : W6.heap[w.heap.size]? = some (.cells #[.string ⟨#[]⟩, .string ⟨#[]⟩, .int .i64 0, .slice none 0 0, .bool false, .int .i64 0, .int .i64 0] 38) := by rw [← hW6]; exact (heap_setCell_other _ _ _ _ hne).trans H6.out.2.1
      have hO6 : OwnBs (R + 1) W6 (.slice Ab bs.length Cb) bs := by rw [← hW6]; exact hO.set (by have := HR.out.2.2.1; omega) _ _
      have h6b : Below w.heap.size w W6 := by rw [← hW6]; exact H6.out.2.2.setCell (Nat.le_of_lt HR.out.2.1) _
      have H7 : Hid (bs.map (·.1) = bsF ∧ bs.length ≤ 5 ∧ OwnBs (R + 1) W6 (.slice Ab bs.length Cb) bs ∧ Below w.heap.size w W6 ∧ W6.heap[w.heap.size]? = some (.cells #[.string ⟨#[]⟩, .string ⟨#[]⟩, .int .i64 0, .slice none 0 0, .bool false, .int .i64 0, .int .i64 0] 38)) := ⟨hbs, hbl, hO6, h6b, h6r⟩
      clear hbs hbl hO hO6 h6b
      have HW6 : Hid (_ = W6) := hW6
      clear hW6
      go_upto_region 10 with fail
      try rw [HW6.out]
      clear HW6 q0 q1 q2 q3 q4 q5 q6 q7 q8 q9 q10 p0 p1 p2 p3 p4 p5 p6 pf
      obtain ⟨p0, p1, p2, p3, p4, p5, p6, pf⟩ := box7R h6
      obtain ⟨r0, r1, r2, r3, r4, r5, r6, rf⟩ := box7R h6r
      obtain ⟨f0, f1, f2, f3, f4, f5, f6, _⟩ := box7R (set7R (.string a) (.string b) (.int .i64 n) (.slice Ab bs.length Cb) (.bool true) (.int .i64 0) (.int .i64 0) h6r)
      clear h6 h6r
      go_wp2
      refine bodyPost_ret (v := .agg #[.string a, .string b, .int .i64 n, .slice Ab bs.length Cb, .bool true, .int .i64 0, .int .i64 0]) (by simp [results, Tryd.results8, go_sem, f0, f1, f2, f3, f4, f5, f6]) rfl ?_
      have hsb : w.heap.size < R + 1 := by have := HR.out.2.2.2; omega
      refine ⟨.inr ⟨by rw [HT.out], R + 1, Ab, Cb, bs, rfl, Nat.le_of_lt hsb, by rw [HT.out]; exact H7.out.1, H7.out.2.1, ((((((H7.out.2.2.1.set hsb _ _).set hsb _ _).set hsb _ _).set hsb _ _).set hsb _ _).set hsb _ _).set hsb _ _⟩, bel7R _ _ _ _ _ _ _ H7.out.2.2.2.1 (Nat.le_refl _)⟩
    · obtain ⟨W6, hW6⟩ : ∃ W6, (w5.setCell ⟨B3, 5, none⟩ (.int .i64 (p : Int))).setCell ⟨B3, 6, none⟩ (.int .i64 c) = W6 := ⟨_, rfl⟩
      have h6 : W6.heap[B3]? = some (.cells #[.string a, .string b, .int .i64 n, .slice none 0 0, .bool true, .int .i64 (p : Int), .int .i64 c] 38) := by rw [← hW6]; simp [World.setCell, Array.getElem?_modify, H6.out.1]
      have h6r : W6.heap[w.heap.size]? = some (.cells #[.string ⟨#[]⟩, .string ⟨#[]⟩, .int .i64 0, .slice none 0 0, .bool false, .int .i64 0, .int .i64 0] 38) := by rw [← hW6]; exact (heap_setCell_other _ _ _ _ hne).trans ((heap_setCell_other _ _ _ _ hne).trans H6.out.2.1)
      have h6b : Below w.heap.size w W6 := by rw [← hW6]; exact (H6.out.2.2.setCell (Nat.le_of_lt HR.out.2.1) _).setCell (Nat.le_of_lt HR.out.2.1) _
      have H7 : Hid (Below w.heap.size w W6 ∧ c ≠ 0) := ⟨h6b, hc0⟩
      have g0 : (c != 0) = true := by simpa using hc0
      clear h6b hc0
      have HW6 : Hid (_ = W6) := hW6
      clear hW6
      go_upto_region 8 with fail
      try rw [HW6.out]
      clear HW6 q0 q1 q2 q3 q4 q5 q6 q7 q8 q9 q10 p0 p1 p2 p3 p4 p5 p6 pf
      obtain ⟨p0, p1, p2, p3, p4, p5, p6, pf⟩ := box7R h6
      obtain ⟨r0, r1, r2, r3, r4, r5, r6, rf⟩ := box7R h6r
      obtain ⟨f0, f1, f2, f3, f4, f5, f6, _⟩ := box7R (set7R (.string a) (.string b) (.int .i64 n) (.slice none 0 0) (.bool true) (.int .i64 (p : Int)) (.int .i64 c) h6r)
      clear h6 h6r
      go_wp2
      refine bodyPost_ret (v := .agg #[.string a, .string b, .int .i64 n, .slice none 0 0, .bool true, .int .i64 (p : Int), .int .i64 c]) (by simp [results, Tryd.results8, go_sem, f0, f1, f2, f3, f4, f5, f6]) rfl ?_
      refine ⟨.inl ⟨by rw [HT.out]; exact H7.out.2, by rw [HT.out]⟩, bel7R _ _ _ _ _ _ _ H7.out.1 (Nat.le_refl _)⟩
end Go.Proofs.YtjnikogaleofaaaDoor
namespace Go.Proofs.YtjnikogaleofaaaDoor
open Go.ChangeShapes Go.WideShapes Go.ChangeAt Go.RowKit
/-- The list with its place k + 1 turned. -/
def turnL (x : Ixc) (k : Nat) (t : ByteArray) (e1 : List ByteArray) : List Seg := (ixSegs x).take (k + 1) ++ (t, [[⟨#[55, 55]⟩], e1]) :: (ixSegs x).drop (k + 2)
theorem turnL_eq (x : Ixc) (k : Nat) (t : ByteArray) (e1 : List ByteArray) : turnL x k t e1 = hdS tIXH [x.frm, x.to, decS x.num] :: ((x.buns.flatMap bunSegs ++ [hdS tIXT [decS x.buns.length, decS x.num]]).take k ++ (t, [[⟨#[55, 55]⟩], e1]) :: (x.buns.flatMap bunSegs ++ [hdS tIXT [decS x.buns.length, decS x.num]]).drop (k + 1)) := by
  simp [turnL, ixSegs]
/-- A trailer does not stand first. -/
theorem tr_behind {x : Ixc} {i : Nat} {t : ByteArray} {es : List (List ByteArray)} (hg : (ixSegs x)[i]? = some (t, es)) (ht : isTr t) : ∃ k, i = k + 1 ∧ (x.buns.flatMap bunSegs ++ [hdS tIXT [decS x.buns.length, decS x.num]])[k]? = some (t, es) := by
  cases i with
  | zero =>
    simp [ixSegs, hdS] at hg
    obtain ⟨rfl, _⟩ := hg
    rcases ht with h | h | h <;> exact absurd h (by decide)
  | succ k =>
    refine ⟨k, rfl, ?_⟩
    simpa [ixSegs] using hg
theorem turnL_len {x : Ixc} {k : Nat} {t : ByteArray} {e1 : List ByteArray} (h : k + 1 < (ixSegs x).length) : (turnL x k t e1).length = (ixSegs x).length := by
  unfold turnL
  rw [List.length_append, List.length_take, List.length_cons, List.length_drop]
  omega
theorem turnL_hd {x : Ixc} (h : ixB x = true) (hl : (ixSegs x).length ≤ 400) {k : Nat} {t : ByteArray} {e1 : List ByteArray} (hk : k + 1 < (ixSegs x).length) : hdO (turnL x k t e1) = (x.frm, x.to, x.num, true, 0) := by
  have hlen := turnL_len (t := t) (e1 := e1) hk
  unfold ixB ctlB at h
  simp only [Bool.and_eq_true, decide_eq_true_eq, List.all_eq_true] at h
  obtain ⟨⟨h1, h2⟩, h3, h4, _⟩ := h
  rw [turnL_eq] at hlen ⊢
  rw [List.length_cons] at hlen
  have hd : hdT tIXH [[x.frm], [x.to], [decS x.num]] = some (x.frm, x.to, x.num) := hdT_of h1 h2 rfl h3 h4
  show hdO ((tIXH, [[x.frm], [x.to], [decS x.num]]) :: _) = _
  rw [hdO_cons, if_neg (by omega), hd]
/-- All of what is asked of a turned trailer. -/
theorem turned_told {x : Ixc} (h : ixB x = true) (hl : (ixSegs x).length ≤ 400) {i : Nat} {t : ByteArray} {es : List (List ByteArray)} {e1 : List ByteArray} (hg : (ixSegs x)[i]? = some (t, es)) (ht : isTr t) (he : es[1]? = some e1) :
    ∃ k, i = k + 1 ∧ hdO (turnL x k t e1) = (x.frm, x.to, x.num, true, 0) ∧ (rdAll x.num (turnL x k t e1)).1 = 5 ∧ (rdAll x.num (turnL x k t e1)).2.1 = i := by
  obtain ⟨k, rfl, hk⟩ := tr_behind hg ht
  have hlt := (List.getElem?_eq_some_iff.1 hg).1
  obtain ⟨a, b⟩ := rd_turned h hk ht he ((x.buns.flatMap bunSegs ++ [hdS tIXT [decS x.buns.length, decS x.num]]).drop (k + 1))
  refine ⟨k, rfl, turnL_hd h hl hlt, ?_, ?_⟩
  · rw [turnL_eq]
    exact a
  · rw [turnL_eq]
    show 1 + (rdIx x.num _ 0 _).2.1 = k + 1
    rw [List.drop_one, List.tail_cons, b]
    omega
end Go.Proofs.YtjnikogaleofaaaDoor
