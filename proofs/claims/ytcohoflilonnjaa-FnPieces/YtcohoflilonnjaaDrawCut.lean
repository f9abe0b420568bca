/- Contract of the model's DrawCutAt: over a list of at most 1048576 bytes it tells four numbers, a text of at most 24 bytes and a number and writes nothing that was there. -/
import Derived.Test.YtcohoflilonnjaaDrawWords
import Derived.Deep.RegionHeld3
namespace Go.Proofs.Ytcohoflilonnjaa
open Go.ChangeShapes Go.WideShapes Go.ChangeAt Go.RowKit
theorem n_list {B R X : Nat} {w W : World} {x0 x1 x2 x3 : Int} (g : Nat) (h : DS B R X w W x0 x1 x2 x3) (hl : ∀ v, v < 5 → W.cell? ⟨g, v, none⟩ = some (.int .i64 (([x0, x1, x2, x1, x3] : List Int)[v]?.getD 0))) (hg : g ≠ B) :
    Calls Try.prog 35 #[.pointer (some ⟨B, 0, none⟩), .int .i64 5] W fun e w' => ∃ (v : Nat) (y : Int), e = .returned (.int .i64 (v : Int)) ∧ (v : Int) < 5 ∧ DS B R X w w' x0 x1 x2 x3 ∧ w'.cell? ⟨X, 0, none⟩ = some (.int .i64 x0) ∧ w'.cell? ⟨X, 1, none⟩ = some (.int .i64 x1) ∧ w'.cell? ⟨X, 2, none⟩ = some (.int .i64 x2) ∧ w'.cell? ⟨X, 3, none⟩ = some (.int .i64 x3) ∧ w'.cell? ⟨R, 0, none⟩ = some (.int .i64 0) ∧ w'.cell? ⟨R, 1, none⟩ = some (.int .i64 0) ∧ w'.cell? ⟨R, 2, none⟩ = some (.int .i64 0) ∧ w'.cell? ⟨R, 3, none⟩ = some (.int .i64 0) ∧ (∀ o, w'.frozen? ⟨R, o, none⟩ = false) ∧ w'.cell? ⟨g, v, none⟩ = some (.int .i64 y) ∧ R ≠ w'.heap.size ∧ X ≠ w'.heap.size := by
  refine (n_any B 5 _ (by omega) (by omega) h.src).mono ?_
  rintro e w' ⟨v, rfl, h0, h1, hs, hk⟩
  obtain ⟨v, rfl⟩ := Int.eq_ofNat_of_zero_le h0
  have h2 := h.keep hk hs
  have hc := hk.cell (hl v (by omega)) hg
  exact ⟨v, _, rfl, h1, h2, h2.x.c0, h2.x.c1, h2.x.c2, h2.x.c3, h2.r.c0, h2.r.c1, h2.r.c2, h2.r.c3, h2.r.fz, hc, by have := h2.r.lt; omega, by have := h2.x.lt; omega⟩
theorem n_pre {B R X : Nat} {w W : World} {x0 x1 x2 x3 : Int} (t : Nat) (h : DS B R X w W x0 x1 x2 x3) :
    Calls Try.prog 35 #[.pointer (some ⟨B, 0, none⟩), .int .i64 5] W fun e w' => ∃ (v : Nat) (y : Int), e = .returned (.int .i64 (v : Int)) ∧ (v : Int) < 5 ∧ DS B R X w w' x0 x1 x2 x3 ∧ w'.cell? ⟨X, 0, none⟩ = some (.int .i64 x0) ∧ w'.cell? ⟨X, 1, none⟩ = some (.int .i64 x1) ∧ w'.cell? ⟨X, 2, none⟩ = some (.int .i64 x2) ∧ w'.cell? ⟨X, 3, none⟩ = some (.int .i64 x3) ∧ w'.cell? ⟨R, 0, none⟩ = some (.int .i64 0) ∧ w'.cell? ⟨R, 1, none⟩ = some (.int .i64 0) ∧ w'.cell? ⟨R, 2, none⟩ = some (.int .i64 0) ∧ w'.cell? ⟨R, 3, none⟩ = some (.int .i64 0) ∧ (∀ o, w'.frozen? ⟨R, o, none⟩ = false) ∧ (w'.alloc (.cells #[.int .i64 x0, .int .i64 x1, .int .i64 x2, .int .i64 x1, .int .i64 x3] t)).cell? ⟨w'.heap.size, v, none⟩ = some (.int .i64 y) ∧ R ≠ w'.heap.size ∧ X ≠ w'.heap.size ∧ (w'.alloc (.cells #[.int .i64 x0, .int .i64 x1, .int .i64 x2, .int .i64 x1, .int .i64 x3] t)).cell? ⟨R, 0, none⟩ = some (.int .i64 0) ∧ (w'.alloc (.cells #[.int .i64 x0, .int .i64 x1, .int .i64 x2, .int .i64 x1, .int .i64 x3] t)).cell? ⟨R, 1, none⟩ = some (.int .i64 0) ∧ (w'.alloc (.cells #[.int .i64 x0, .int .i64 x1, .int .i64 x2, .int .i64 x1, .int .i64 x3] t)).cell? ⟨R, 2, none⟩ = some (.int .i64 0) ∧ (w'.alloc (.cells #[.int .i64 x0, .int .i64 x1, .int .i64 x2, .int .i64 x1, .int .i64 x3] t)).cell? ⟨R, 3, none⟩ = some (.int .i64 0) ∧ (∀ o, (w'.alloc (.cells #[.int .i64 x0, .int .i64 x1, .int .i64 x2, .int .i64 x1, .int .i64 x3] t)).frozen? ⟨R, o, none⟩ = false) ∧ (#[Value.int .i64 x0, .int .i64 x1, .int .i64 x2, .int .i64 x1, .int .i64 x3] : Array Value)[v]? = some (.int .i64 y) := by
  refine (n_any B 5 _ (by omega) (by omega) h.src).mono ?_
  rintro e w' ⟨v, rfl, h0, h1, hs, hk⟩
  obtain ⟨v, rfl⟩ := Int.eq_ofNat_of_zero_le h0
  have h2 := h.keep hk hs
  have hv : v < 5 := by omega
  have hq : (#[Value.int .i64 x0, .int .i64 x1, .int .i64 x2, .int .i64 x1, .int .i64 x3] : Array Value)[v]? = some (.int .i64 (([x0, x1, x2, x1, x3] : List Int)[v]?.getD 0)) := by
    have h5 : v = 0 ∨ v = 1 ∨ v = 2 ∨ v = 3 ∨ v = 4 := by omega
    rcases h5 with rfl | rfl | rfl | rfl | rfl <;> rfl
  exact ⟨v, _, rfl, h1, h2, h2.x.c0, h2.x.c1, h2.x.c2, h2.x.c3, h2.r.c0, h2.r.c1, h2.r.c2, h2.r.c3, h2.r.fz, cell_lits w' t [x0, x1, x2, x1, x3] v (by simp; omega), by have := h2.r.lt; omega, by have := h2.x.lt; omega, (h2.alloc _).r.c0, (h2.alloc _).r.c1, (h2.alloc _).r.c2, (h2.alloc _).r.c3, (h2.alloc _).r.fz, hq⟩
theorem new_cell (W : World) (c : Array Value) (t g q : Nat) (v : Value) (hg : g = W.heap.size) (h : c[q]? = some v) : (W.alloc (.cells c t)).cell? ⟨g, q, none⟩ = some v := by
  subst hg
  simp [go_sem, h]
theorem wpAnyH_imp {P : Program} {md : Region.Mode} {ops : Array Oper} {Q : Exit → Act → World → Prop} {S S2 : World → Prop} (h : ∀ w, S2 w → S w) : ∀ (fuel : Nat) (listed : Array Bool) (a : Act) (w : World), wpAnyH P md ops Q S2 fuel listed a w → wpAnyH P md ops Q S fuel listed a w
  | 0, _, _, _, hw => hw
  | fuel + 1, _, _, _, hw => ⟨hw.1, fun i hi => wpOp_mono (fun a' w' h' => ⟨h w' h'.1, wpAnyH_imp h fuel _ a' w' h'.2⟩) (hw.2 i hi)⟩
set_option maxHeartbeats 4000000 in
theorem drawCutAt_any (a : Option Addr) (len cap : Nat) (zs : List Int) (w : World) (hl : len ≤ 1048576) (hr : BytesAt w a len zs) :
    Calls Try.prog 29 #[.slice a len cap] w fun e w' => ∃ (x0 x1 x2 x3 : Int) (t : ByteArray) (y : Int), e = .returned (.tuple #[.agg #[.int .i64 x0, .int .i64 x1, .int .i64 x2, .int .i64 x3], .string t, .int .i64 y]) ∧ t.size ≤ 24 ∧ Below w.heap.size w w' := by
  have HR : Hid (BytesAt w a len zs) := hr
  clear hr
  go_enter Try.func29, Try.ntmps29
  go_wp2_with fail
  refine (source_any a len cap zs _ hl (bytesAt_below HR.out ((Below.refl _ _).alloc (Nat.le_refl _) _))).mono ?_
  rintro e w1 ⟨rfl, hS, hb1⟩
  have HS : Hid (IsSrc (w.alloc (.cells #[.int .i64 0, .int .i64 0, .int .i64 0, .int .i64 0] 24)).heap.size w1 ∧ Below (w.alloc (.cells #[.int .i64 0, .int .i64 0, .int .i64 0, .int .i64 0] 24)).heap.size (w.alloc (.cells #[.int .i64 0, .int .i64 0, .int .i64 0, .int .i64 0] 24)) w1) := ⟨hS, hb1⟩
  clear hS hb1
  go_wp2_with fail
  refine (syntax_any _ _ (by have := HS.out.1; rwa [World.size_alloc] at this)).mono ?_
  rintro e w2 ⟨x0, x1, x2, x3, rfl, hS2, hk2⟩
  have hD := DS.begun (x0 := x0) (x1 := x1) (x2 := x2) (x3 := x3) HS.out.2 hS2 hk2
  have d0 := hD.x.c0
  have d1 := hD.x.c1
  have d2 := hD.x.c2
  have d3 := hD.x.c3
  have hne1 : w2.heap.size ≠ w.heap.size := by have := hD.rb; have := hD.bx; omega
  have hne2 : w.heap.size ≠ w2.heap.size := hne1.symm
  clear hS2 hk2 HS
  go_wp2_with fail
  go_region_held3 (fun w' => w'.cell? ⟨w2.heap.size, 0, none⟩ = some (.int .i64 x0) ∧ w'.cell? ⟨w2.heap.size, 1, none⟩ = some (.int .i64 x1) ∧ w'.cell? ⟨w2.heap.size, 2, none⟩ = some (.int .i64 x2) ∧ w'.cell? ⟨w2.heap.size, 3, none⟩ = some (.int .i64 x3)) (go_keep)
    (first | (go_at_call 35; refine (n_st 24 (by omega) (by omega) hD.drew).mono ?_; rintro e w3 ⟨q, rfl, hq, hD3, y0, y1, y2, y3⟩)
           | (go_at_call 34; refine (words_st q (by omega) hD3).mono ?_; rintro e w4 ⟨t, rfl, ht, hD4, z0, z1, z2, z3, r0, r1, r2, r3, rz⟩))
  clear d0 d1 d2 d3 y0 y1 y2 y3 hD hD3
  rename_i hHeld
  clear hHeld
  have hx4 := hD4.x.lt
  have hr4 := hD4.r.lt
  have hn1 : w2.heap.size ≠ w4.heap.size := by omega
  have hgB : w4.heap.size ≠ w.heap.size + 1 := by have := hD4.src.lt; omega
  have hn2 : w.heap.size ≠ w4.heap.size := by omega
  go_wp2_with fail
  refine wp_region_held_drew (S := (fun w' => w'.cell? ⟨w2.heap.size, 0, none⟩ = some (.int .i64 x0) ∧ w'.cell? ⟨w2.heap.size, 1, none⟩ = some (.int .i64 x1) ∧ w'.cell? ⟨w2.heap.size, 2, none⟩ = some (.int .i64 x2) ∧ w'.cell? ⟨w2.heap.size, 3, none⟩ = some (.int .i64 x3))) (by kernel_rfl) ⟨z0, z1, z2, z3⟩ (fun hHeld => ?_)
  refine wpAnyH_take (i := 0) (v := ?_) rfl (by kernel_rfl) (by kernel_rfl) (by kernel_rfl) (fun _ _ _ h => h) (Or.inl ⟨by rfl, ?_⟩) (by assumption) ?_
  rotate_left 1
  · intro w hSw
    (try dsimp only at hSw)
    go_simp
    try with_reducible rfl
  try simp only [Act.put]
  refine wpAnyH_take (i := 1) (v := ?_) rfl (by kernel_rfl) (by kernel_rfl) (by kernel_rfl) (fun _ _ _ h => h) (Or.inl ⟨by rfl, ?_⟩) (by assumption) ?_
  rotate_left 1
  · intro w hSw
    (try dsimp only at hSw)
    go_simp
    try with_reducible rfl
  try simp only [Act.put]
  refine wpAnyH_take (i := 2) (v := ?_) rfl (by kernel_rfl) (by kernel_rfl) (by kernel_rfl) (fun _ _ _ h => h) (Or.inl ⟨by rfl, ?_⟩) (by assumption) ?_
  rotate_left 1
  · intro w hSw
    (try dsimp only at hSw)
    go_simp
    try with_reducible rfl
  try simp only [Act.put]
  refine wpAnyH_take (i := 3) (v := ?_) rfl (by kernel_rfl) (by kernel_rfl) (by kernel_rfl) (fun _ _ _ h => h) (Or.inl ⟨by rfl, ?_⟩) (by assumption) ?_
  rotate_left 1
  · intro w hSw
    (try dsimp only at hSw)
    go_simp
    try with_reducible rfl
  try simp only [Act.put]
  refine wpAnyH_take (i := 4) (v := ?_) rfl (by kernel_rfl) (by kernel_rfl) (by kernel_rfl) (fun _ _ _ h => h) (Or.inl ⟨by rfl, ?_⟩) (by assumption) ?_
  rotate_left 1
  · intro w hSw
    (try dsimp only at hSw)
    go_simp
    try with_reducible rfl
  try simp only [Act.put]
  refine wpAnyH_take (i := 5) (v := ?_) rfl (by kernel_rfl) (by kernel_rfl) (by kernel_rfl) (fun _ _ _ h => h) (Or.inl ⟨by rfl, ?_⟩) (by assumption) ?_
  rotate_left 1
  · intro w hSw
    (try dsimp only at hSw)
    go_simp
    try with_reducible rfl
  try simp only [Act.put]
  refine wpAnyH_take (i := 6) (v := ?_) rfl (by kernel_rfl) (by kernel_rfl) (by kernel_rfl) (fun _ _ _ h => h) (Or.inl ⟨by rfl, ?_⟩) (by assumption) ?_
  rotate_left 1
  · intro w hSw
    (try dsimp only at hSw)
    go_simp
    try with_reducible rfl
  try simp only [Act.put]
  refine wpAnyH_take (i := 7) (v := ?_) rfl (by kernel_rfl) (by kernel_rfl) (by kernel_rfl) (fun _ _ _ h => h) (Or.inl ⟨by rfl, ?_⟩) (by assumption) ?_
  rotate_left 1
  · intro w hSw
    (try dsimp only at hSw)
    go_simp
    try with_reducible rfl
  try simp only [Act.put]
  refine wpAnyH_take (i := 8) (v := ?_) rfl (by kernel_rfl) (by kernel_rfl) (by kernel_rfl) (fun _ _ _ h => h) (Or.inl ⟨by rfl, ?_⟩) (by assumption) ?_
  rotate_left 1
  · intro w hSw
    (try dsimp only at hSw)
    go_simp
    try with_reducible rfl
  try simp only [Act.put]
  refine wpAnyH_take (i := 9) (v := ?_) rfl (by kernel_rfl) (by kernel_rfl) (by kernel_rfl) (fun _ _ _ h => h) (Or.inl ⟨by rfl, ?_⟩) (by assumption) ?_
  rotate_left 1
  · intro w hSw
    (try dsimp only at hSw)
    go_simp
    try with_reducible rfl
  try simp only [Act.put]
  refine wpAnyH_take (i := 10) (v := ?_) rfl (by kernel_rfl) (by kernel_rfl) (by kernel_rfl) (fun _ _ _ h => h) (Or.inl ⟨by rfl, ?_⟩) (by assumption) ?_
  rotate_left 1
  · intro w hSw
    (try dsimp only at hSw)
    go_simp
    try with_reducible rfl
  try simp only [Act.put]
  refine wpAnyH_take (i := 11) (v := ?_) rfl (by kernel_rfl) (by kernel_rfl) (by kernel_rfl) (fun _ _ _ h => h) (Or.inl ⟨by rfl, ?_⟩) (by assumption) ?_
  rotate_left 1
  · intro w hSw
    (try dsimp only at hSw)
    go_simp
    try with_reducible rfl
  try simp only [Act.put]
  refine wpAnyH_take (i := 13) (v := ?_) rfl (by kernel_rfl) (by kernel_rfl) (by kernel_rfl) (fun _ _ _ h => h) (Or.inl ⟨by rfl, ?_⟩) (by assumption) ?_
  rotate_left 1
  · intro w hSw
    (try dsimp only at hSw)
    go_simp
    try with_reducible rfl
  try simp only [Act.put]
  refine wpAnyH_ready (rs := [12, 14]) (by kernel_rfl) (by simp) ?_
  refine AllReadyH.cons rfl (fun K hK => ?_) (AllReadyH.cons rfl (fun K hK => ?_) AllReadyH.nil)
  · go_simp
    refine hK.out _ _ ⟨(hD4.alloc _).x.c0, (hD4.alloc _).x.c1, (hD4.alloc _).x.c2, (hD4.alloc _).x.c3⟩ (fun hHeld => ?_)
    clear hK K
    refine wpAnyH_ready (rs := [14]) (by kernel_rfl) (by simp) ?_
    refine AllReadyH.cons rfl (fun K hK => ?_) AllReadyH.nil
    go_simp
    refine (n_list w4.heap.size (hD4.alloc (.cells #[.int .i64 x0, .int .i64 x1, .int .i64 x2, .int .i64 x1, .int .i64 x3] 2)).drew (fun v hv => cell_lits w4 _ [x0, x1, x2, x1, x3] v hv) hgB).mono ?_
    rintro e w5 ⟨q5, y, rfl, hq5, hD5, y0, y1, y2, y3, s0, s1, s2, s3, sz, l0, m1, m2⟩
    clear hHeld
    go_wp2_with fail
    refine hK.out _ _ ⟨y0, y1, y2, y3⟩ (fun hHeld => ?_)
    clear hK K
    try simp only [Act.put]
    refine wpAnyH_imp (S2 := fun w' => (w'.cell? ⟨w2.heap.size, 0, none⟩ = some (.int .i64 x0) ∧ w'.cell? ⟨w2.heap.size, 1, none⟩ = some (.int .i64 x1) ∧ w'.cell? ⟨w2.heap.size, 2, none⟩ = some (.int .i64 x2) ∧ w'.cell? ⟨w2.heap.size, 3, none⟩ = some (.int .i64 x3)) ∧ w'.cell? ⟨w4.heap.size, q5, none⟩ = some (.int .i64 y)) (fun _ h => h.1) _ _ _ _ ?_
    have hS2 : (w5.cell? ⟨w2.heap.size, 0, none⟩ = some (.int .i64 x0) ∧ w5.cell? ⟨w2.heap.size, 1, none⟩ = some (.int .i64 x1) ∧ w5.cell? ⟨w2.heap.size, 2, none⟩ = some (.int .i64 x2) ∧ w5.cell? ⟨w2.heap.size, 3, none⟩ = some (.int .i64 x3)) ∧ w5.cell? ⟨w4.heap.size, q5, none⟩ = some (.int .i64 y) := ⟨hHeld, l0⟩
    clear hHeld
    refine wpAnyH_take (i := 15) (v := ?_) rfl (by kernel_rfl) (by kernel_rfl) (by kernel_rfl) (fun _ _ _ h => h) (Or.inl ⟨by rfl, ?_⟩) (by assumption) ?_
    rotate_left 1
    · intro w hSw
      (try dsimp only at hSw)
      go_simp
      try with_reducible rfl
    try simp only [Act.put]
    refine wpAnyH_take (i := 16) (v := ?_) rfl (by kernel_rfl) (by kernel_rfl) (by kernel_rfl) (fun _ _ _ h => h) (Or.inl ⟨by rfl, ?_⟩) (by assumption) ?_
    rotate_left 1
    · intro w hSw
      (try dsimp only at hSw)
      go_simp
      try with_reducible rfl
    try simp only [Act.put]
    refine wpAnyH_ready (rs := [17]) (by kernel_rfl) (by simp) ?_
    refine AllReadyH.cons rfl (fun K hK => ?_) AllReadyH.nil
    go_simp
    refine hK.out _ _ (by obtain ⟨⟨b0, b1, b2, b3⟩, b4⟩ := hS2; simp [*, World.cell?_setCell_far]) (fun hHeld => ?_)
    clear hK K hS2
    refine wpAnyH_take (i := 18) (v := ?_) rfl (by kernel_rfl) (by kernel_rfl) (by kernel_rfl) (fun _ _ _ h => h) (Or.inl ⟨by rfl, ?_⟩) (by assumption) ?_
    rotate_left 1
    · intro w hSw
      (try dsimp only at hSw)
      go_simp
      try with_reducible rfl
    simp only [Act.put, List.getElem_toArray, List.getElem_cons_succ, List.getElem_cons_zero, List.setIfInBounds_toArray, List.set_cons_succ, List.set_cons_zero]
    refine wpAnyH_take (i := 19) (v := ?_) rfl (by kernel_rfl) (by kernel_rfl) (by kernel_rfl) (fun _ _ _ h => h) (Or.inl ⟨by rfl, ?_⟩) (by assumption) ?_
    rotate_left 1
    · intro w hSw
      (try dsimp only at hSw)
      go_simp
      try with_reducible rfl
    simp only [Act.put, List.getElem_toArray, List.getElem_cons_succ, List.getElem_cons_zero, List.setIfInBounds_toArray, List.set_cons_succ, List.set_cons_zero]
    refine wpAnyH_done (by kernel_rfl) ?_ _
    clear hHeld
    go_wp2
    exact bodyPost_ret (v := .tuple #[.agg #[.int .i64 x0, .int .i64 x1, .int .i64 x2, .int .i64 x3], .string t, .int .i64 y]) (by simp [results, Try.results29, go_sem, s0, s1, s2, s3]) rfl ⟨x0, x1, x2, x3, t, y, rfl, by omega, ((((hD5.bel.setCell (Nat.le_refl _) _).setCell (Nat.le_refl _) _).setCell (Nat.le_refl _) _).setCell (Nat.le_refl _) _)⟩
  · go_simp
    refine (n_pre 2 hD4.drew).mono ?_
    rintro e w5 ⟨q5, y, rfl, hq5, hD5, y0, y1, y2, y3, s0, s1, s2, s3, sz, l0, m1, m2, o0, o1, o2, o3, oz, lq⟩
    clear hHeld
    go_wp2_with fail
    refine hK.out _ _ ⟨y0, y1, y2, y3⟩ (fun hHeld => ?_)
    clear hK K
    try simp only [Act.put]
    refine wpAnyH_ready (rs := [12, 17]) (by kernel_rfl) (by simp) ?_
    refine AllReadyH.cons rfl (fun K hK => ?_) (AllReadyH.cons rfl (fun K hK => ?_) AllReadyH.nil)
    · go_simp
      refine hK.out _ _ ⟨(hD5.alloc _).x.c0, (hD5.alloc _).x.c1, (hD5.alloc _).x.c2, (hD5.alloc _).x.c3⟩ (fun hHeld => ?_)
      clear hK K
      have hlt5 := hD5.r.lt
      have hn5 : w.heap.size ≠ w5.heap.size := by omega
      have hlx5 := hD5.x.lt
      try simp only [Act.put]
      refine wpAnyH_imp (S2 := fun w' => (w'.cell? ⟨w2.heap.size, 0, none⟩ = some (.int .i64 x0) ∧ w'.cell? ⟨w2.heap.size, 1, none⟩ = some (.int .i64 x1) ∧ w'.cell? ⟨w2.heap.size, 2, none⟩ = some (.int .i64 x2) ∧ w'.cell? ⟨w2.heap.size, 3, none⟩ = some (.int .i64 x3)) ∧ w'.cell? ⟨w5.heap.size, q5, none⟩ = some (.int .i64 y)) (fun _ h => h.1) _ _ _ _ ?_
      have hS2 : ((w5.alloc (.cells #[.int .i64 x0, .int .i64 x1, .int .i64 x2, .int .i64 x1, .int .i64 x3] 2)).cell? ⟨w2.heap.size, 0, none⟩ = some (.int .i64 x0) ∧ (w5.alloc (.cells #[.int .i64 x0, .int .i64 x1, .int .i64 x2, .int .i64 x1, .int .i64 x3] 2)).cell? ⟨w2.heap.size, 1, none⟩ = some (.int .i64 x1) ∧ (w5.alloc (.cells #[.int .i64 x0, .int .i64 x1, .int .i64 x2, .int .i64 x1, .int .i64 x3] 2)).cell? ⟨w2.heap.size, 2, none⟩ = some (.int .i64 x2) ∧ (w5.alloc (.cells #[.int .i64 x0, .int .i64 x1, .int .i64 x2, .int .i64 x1, .int .i64 x3] 2)).cell? ⟨w2.heap.size, 3, none⟩ = some (.int .i64 x3)) ∧ (w5.alloc (.cells #[.int .i64 x0, .int .i64 x1, .int .i64 x2, .int .i64 x1, .int .i64 x3] 2)).cell? ⟨w5.heap.size, q5, none⟩ = some (.int .i64 y) := ⟨hHeld, l0⟩
      clear hHeld
      refine wpAnyH_take (i := 15) (v := ?_) rfl (by kernel_rfl) (by kernel_rfl) (by kernel_rfl) (fun _ _ _ h => h) (Or.inl ⟨by rfl, ?_⟩) (by assumption) ?_
      rotate_left 1
      · intro w hSw
        (try dsimp only at hSw)
        go_simp
        try with_reducible rfl
      try simp only [Act.put]
      refine wpAnyH_take (i := 16) (v := ?_) rfl (by kernel_rfl) (by kernel_rfl) (by kernel_rfl) (fun _ _ _ h => h) (Or.inl ⟨by rfl, ?_⟩) (by assumption) ?_
      rotate_left 1
      · intro w hSw
        (try dsimp only at hSw)
        go_simp
        try with_reducible rfl
      try simp only [Act.put]
      refine wpAnyH_ready (rs := [17]) (by kernel_rfl) (by simp) ?_
      refine AllReadyH.cons rfl (fun K hK => ?_) AllReadyH.nil
      go_simp
      have nc := new_cell ((((w5.setCell ⟨w.heap.size, 0, none⟩ (.int .i64 x0)).setCell ⟨w.heap.size, 1, none⟩ (.int .i64 x1)).setCell ⟨w.heap.size, 2, none⟩ (.int .i64 x2)).setCell ⟨w.heap.size, 3, none⟩ (.int .i64 x3)) #[.int .i64 x0, .int .i64 x1, .int .i64 x2, .int .i64 x1, .int .i64 x3] 2 w5.heap.size q5 (.int .i64 y) (by simp) lq
      refine hK.out _ _ ⟨⟨by simp [*, World.cell?_alloc_some, World.cell?_setCell_far], by simp [*, World.cell?_alloc_some, World.cell?_setCell_far], by simp [*, World.cell?_alloc_some, World.cell?_setCell_far], by simp [*, World.cell?_alloc_some, World.cell?_setCell_far]⟩, nc⟩ (fun hHeld => ?_)
      clear hK K hS2
      refine wpAnyH_take (i := 18) (v := ?_) rfl (by kernel_rfl) (by kernel_rfl) (by kernel_rfl) (fun _ _ _ h => h) (Or.inl ⟨by rfl, ?_⟩) (by assumption) ?_
      rotate_left 1
      · intro w hSw
        (try dsimp only at hSw)
        go_simp
        try with_reducible rfl
      simp only [Act.put, List.getElem_toArray, List.getElem_cons_succ, List.getElem_cons_zero, List.setIfInBounds_toArray, List.set_cons_succ, List.set_cons_zero]
      refine wpAnyH_take (i := 19) (v := ?_) rfl (by kernel_rfl) (by kernel_rfl) (by kernel_rfl) (fun _ _ _ h => h) (Or.inl ⟨by rfl, ?_⟩) (by assumption) ?_
      rotate_left 1
      · intro w hSw
        (try dsimp only at hSw)
        go_simp
        try with_reducible rfl
      simp only [Act.put, List.getElem_toArray, List.getElem_cons_succ, List.getElem_cons_zero, List.setIfInBounds_toArray, List.set_cons_succ, List.set_cons_zero]
      refine wpAnyH_done (by kernel_rfl) ?_ _
      clear hHeld
      go_wp2
      have f0 : (((((w5.setCell ⟨w.heap.size, 0, none⟩ (.int .i64 x0)).setCell ⟨w.heap.size, 1, none⟩ (.int .i64 x1)).setCell ⟨w.heap.size, 2, none⟩ (.int .i64 x2)).setCell ⟨w.heap.size, 3, none⟩ (.int .i64 x3)).alloc (.cells #[.int .i64 x0, .int .i64 x1, .int .i64 x2, .int .i64 x1, .int .i64 x3] 2)).cell? ⟨w.heap.size, 0, none⟩ = some (.int .i64 x0) := (World.cell?_alloc_some _ _ _ (by simp [go_sem, s0])).trans (by simp [go_sem, s0])
      have f1 : (((((w5.setCell ⟨w.heap.size, 0, none⟩ (.int .i64 x0)).setCell ⟨w.heap.size, 1, none⟩ (.int .i64 x1)).setCell ⟨w.heap.size, 2, none⟩ (.int .i64 x2)).setCell ⟨w.heap.size, 3, none⟩ (.int .i64 x3)).alloc (.cells #[.int .i64 x0, .int .i64 x1, .int .i64 x2, .int .i64 x1, .int .i64 x3] 2)).cell? ⟨w.heap.size, 1, none⟩ = some (.int .i64 x1) := (World.cell?_alloc_some _ _ _ (by simp [go_sem, s1])).trans (by simp [go_sem, s1])
      have f2 : (((((w5.setCell ⟨w.heap.size, 0, none⟩ (.int .i64 x0)).setCell ⟨w.heap.size, 1, none⟩ (.int .i64 x1)).setCell ⟨w.heap.size, 2, none⟩ (.int .i64 x2)).setCell ⟨w.heap.size, 3, none⟩ (.int .i64 x3)).alloc (.cells #[.int .i64 x0, .int .i64 x1, .int .i64 x2, .int .i64 x1, .int .i64 x3] 2)).cell? ⟨w.heap.size, 2, none⟩ = some (.int .i64 x2) := (World.cell?_alloc_some _ _ _ (by simp [go_sem, s2])).trans (by simp [go_sem, s2])
      have f3 : (((((w5.setCell ⟨w.heap.size, 0, none⟩ (.int .i64 x0)).setCell ⟨w.heap.size, 1, none⟩ (.int .i64 x1)).setCell ⟨w.heap.size, 2, none⟩ (.int .i64 x2)).setCell ⟨w.heap.size, 3, none⟩ (.int .i64 x3)).alloc (.cells #[.int .i64 x0, .int .i64 x1, .int .i64 x2, .int .i64 x1, .int .i64 x3] 2)).cell? ⟨w.heap.size, 3, none⟩ = some (.int .i64 x3) := (World.cell?_alloc_some _ _ _ (by simp [go_sem, s3])).trans (by simp [go_sem, s3])
      exact bodyPost_ret (v := .tuple #[.agg #[.int .i64 x0, .int .i64 x1, .int .i64 x2, .int .i64 x3], .string t, .int .i64 y]) (by simp [results, Try.results29, go_sem, f0, f1, f2, f3]) rfl ⟨x0, x1, x2, x3, t, y, rfl, by omega, ((((hD5.bel.setCell (p := ⟨w.heap.size, 0, none⟩) (Nat.le_refl _) _).setCell (p := ⟨w.heap.size, 1, none⟩) (Nat.le_refl _) _).setCell (p := ⟨w.heap.size, 2, none⟩) (Nat.le_refl _) _).setCell (p := ⟨w.heap.size, 3, none⟩) (Nat.le_refl _) _).alloc (by simp; omega) _⟩
    · go_simp
      have w0 : ((((w5.setCell ⟨w.heap.size, 0, none⟩ (.int .i64 x0)).setCell ⟨w.heap.size, 1, none⟩ (.int .i64 x1)).setCell ⟨w.heap.size, 2, none⟩ (.int .i64 x2)).setCell ⟨w.heap.size, 3, none⟩ (.int .i64 x3)).cell? ⟨w2.heap.size, 0, none⟩ = some (.int .i64 x0) ∧ ((((w5.setCell ⟨w.heap.size, 0, none⟩ (.int .i64 x0)).setCell ⟨w.heap.size, 1, none⟩ (.int .i64 x1)).setCell ⟨w.heap.size, 2, none⟩ (.int .i64 x2)).setCell ⟨w.heap.size, 3, none⟩ (.int .i64 x3)).cell? ⟨w2.heap.size, 1, none⟩ = some (.int .i64 x1) ∧ ((((w5.setCell ⟨w.heap.size, 0, none⟩ (.int .i64 x0)).setCell ⟨w.heap.size, 1, none⟩ (.int .i64 x1)).setCell ⟨w.heap.size, 2, none⟩ (.int .i64 x2)).setCell ⟨w.heap.size, 3, none⟩ (.int .i64 x3)).cell? ⟨w2.heap.size, 2, none⟩ = some (.int .i64 x2) ∧ ((((w5.setCell ⟨w.heap.size, 0, none⟩ (.int .i64 x0)).setCell ⟨w.heap.size, 1, none⟩ (.int .i64 x1)).setCell ⟨w.heap.size, 2, none⟩ (.int .i64 x2)).setCell ⟨w.heap.size, 3, none⟩ (.int .i64 x3)).cell? ⟨w2.heap.size, 3, none⟩ = some (.int .i64 x3) := ⟨by simp [*, World.cell?_setCell_far], by simp [*, World.cell?_setCell_far], by simp [*, World.cell?_setCell_far], by simp [*, World.cell?_setCell_far]⟩
      refine hK.out _ _ w0 (fun hHeld2 => ?_)
      clear hK K
      refine wpAnyH_take (i := 18) (v := ?_) rfl (by kernel_rfl) (by kernel_rfl) (by kernel_rfl) (fun _ _ _ h => h) (Or.inl ⟨by rfl, ?_⟩) (by assumption) ?_
      rotate_left 1
      · intro w hSw
        (try dsimp only at hSw)
        go_simp
        try with_reducible rfl
      simp only [Act.put, List.getElem_toArray, List.getElem_cons_succ, List.getElem_cons_zero, List.setIfInBounds_toArray, List.set_cons_succ, List.set_cons_zero]
      refine wpAnyH_ready (rs := [12]) (by kernel_rfl) (by simp) ?_
      refine AllReadyH.cons rfl (fun K hK => ?_) AllReadyH.nil
      go_simp
      have hlt5 := hD5.r.lt
      have hn5 : w.heap.size ≠ w5.heap.size := by omega
      have hlx5 := hD5.x.lt
      have nc := new_cell ((((w5.setCell ⟨w.heap.size, 0, none⟩ (.int .i64 x0)).setCell ⟨w.heap.size, 1, none⟩ (.int .i64 x1)).setCell ⟨w.heap.size, 2, none⟩ (.int .i64 x2)).setCell ⟨w.heap.size, 3, none⟩ (.int .i64 x3)) #[.int .i64 x0, .int .i64 x1, .int .i64 x2, .int .i64 x1, .int .i64 x3] 2 w5.heap.size q5 (.int .i64 y) (by simp) lq
      have w1' : (((((w5.setCell ⟨w.heap.size, 0, none⟩ (.int .i64 x0)).setCell ⟨w.heap.size, 1, none⟩ (.int .i64 x1)).setCell ⟨w.heap.size, 2, none⟩ (.int .i64 x2)).setCell ⟨w.heap.size, 3, none⟩ (.int .i64 x3)).alloc (.cells #[.int .i64 x0, .int .i64 x1, .int .i64 x2, .int .i64 x1, .int .i64 x3] 2)).cell? ⟨w2.heap.size, 0, none⟩ = some (.int .i64 x0) ∧ (((((w5.setCell ⟨w.heap.size, 0, none⟩ (.int .i64 x0)).setCell ⟨w.heap.size, 1, none⟩ (.int .i64 x1)).setCell ⟨w.heap.size, 2, none⟩ (.int .i64 x2)).setCell ⟨w.heap.size, 3, none⟩ (.int .i64 x3)).alloc (.cells #[.int .i64 x0, .int .i64 x1, .int .i64 x2, .int .i64 x1, .int .i64 x3] 2)).cell? ⟨w2.heap.size, 1, none⟩ = some (.int .i64 x1) ∧ (((((w5.setCell ⟨w.heap.size, 0, none⟩ (.int .i64 x0)).setCell ⟨w.heap.size, 1, none⟩ (.int .i64 x1)).setCell ⟨w.heap.size, 2, none⟩ (.int .i64 x2)).setCell ⟨w.heap.size, 3, none⟩ (.int .i64 x3)).alloc (.cells #[.int .i64 x0, .int .i64 x1, .int .i64 x2, .int .i64 x1, .int .i64 x3] 2)).cell? ⟨w2.heap.size, 2, none⟩ = some (.int .i64 x2) ∧ (((((w5.setCell ⟨w.heap.size, 0, none⟩ (.int .i64 x0)).setCell ⟨w.heap.size, 1, none⟩ (.int .i64 x1)).setCell ⟨w.heap.size, 2, none⟩ (.int .i64 x2)).setCell ⟨w.heap.size, 3, none⟩ (.int .i64 x3)).alloc (.cells #[.int .i64 x0, .int .i64 x1, .int .i64 x2, .int .i64 x1, .int .i64 x3] 2)).cell? ⟨w2.heap.size, 3, none⟩ = some (.int .i64 x3) := ⟨(World.cell?_alloc_some _ _ _ (by rw [w0.1]; rfl)).trans w0.1, (World.cell?_alloc_some _ _ _ (by rw [w0.2.1]; rfl)).trans w0.2.1, (World.cell?_alloc_some _ _ _ (by rw [w0.2.2.1]; rfl)).trans w0.2.2.1, (World.cell?_alloc_some _ _ _ (by rw [w0.2.2.2]; rfl)).trans w0.2.2.2⟩
      refine hK.out _ _ w1' (fun hHeld3 => ?_)
      clear hK K
      refine wpAnyH_imp (S2 := fun w' => (w'.cell? ⟨w2.heap.size, 0, none⟩ = some (.int .i64 x0) ∧ w'.cell? ⟨w2.heap.size, 1, none⟩ = some (.int .i64 x1) ∧ w'.cell? ⟨w2.heap.size, 2, none⟩ = some (.int .i64 x2) ∧ w'.cell? ⟨w2.heap.size, 3, none⟩ = some (.int .i64 x3)) ∧ w'.cell? ⟨w5.heap.size, q5, none⟩ = some (.int .i64 y)) (fun _ h => h.1) _ _ _ _ ?_
      have hS2 : ((((((w5.setCell ⟨w.heap.size, 0, none⟩ (.int .i64 x0)).setCell ⟨w.heap.size, 1, none⟩ (.int .i64 x1)).setCell ⟨w.heap.size, 2, none⟩ (.int .i64 x2)).setCell ⟨w.heap.size, 3, none⟩ (.int .i64 x3)).alloc (.cells #[.int .i64 x0, .int .i64 x1, .int .i64 x2, .int .i64 x1, .int .i64 x3] 2)).cell? ⟨w2.heap.size, 0, none⟩ = some (.int .i64 x0) ∧ (((((w5.setCell ⟨w.heap.size, 0, none⟩ (.int .i64 x0)).setCell ⟨w.heap.size, 1, none⟩ (.int .i64 x1)).setCell ⟨w.heap.size, 2, none⟩ (.int .i64 x2)).setCell ⟨w.heap.size, 3, none⟩ (.int .i64 x3)).alloc (.cells #[.int .i64 x0, .int .i64 x1, .int .i64 x2, .int .i64 x1, .int .i64 x3] 2)).cell? ⟨w2.heap.size, 1, none⟩ = some (.int .i64 x1) ∧ (((((w5.setCell ⟨w.heap.size, 0, none⟩ (.int .i64 x0)).setCell ⟨w.heap.size, 1, none⟩ (.int .i64 x1)).setCell ⟨w.heap.size, 2, none⟩ (.int .i64 x2)).setCell ⟨w.heap.size, 3, none⟩ (.int .i64 x3)).alloc (.cells #[.int .i64 x0, .int .i64 x1, .int .i64 x2, .int .i64 x1, .int .i64 x3] 2)).cell? ⟨w2.heap.size, 2, none⟩ = some (.int .i64 x2) ∧ (((((w5.setCell ⟨w.heap.size, 0, none⟩ (.int .i64 x0)).setCell ⟨w.heap.size, 1, none⟩ (.int .i64 x1)).setCell ⟨w.heap.size, 2, none⟩ (.int .i64 x2)).setCell ⟨w.heap.size, 3, none⟩ (.int .i64 x3)).alloc (.cells #[.int .i64 x0, .int .i64 x1, .int .i64 x2, .int .i64 x1, .int .i64 x3] 2)).cell? ⟨w2.heap.size, 3, none⟩ = some (.int .i64 x3)) ∧ (((((w5.setCell ⟨w.heap.size, 0, none⟩ (.int .i64 x0)).setCell ⟨w.heap.size, 1, none⟩ (.int .i64 x1)).setCell ⟨w.heap.size, 2, none⟩ (.int .i64 x2)).setCell ⟨w.heap.size, 3, none⟩ (.int .i64 x3)).alloc (.cells #[.int .i64 x0, .int .i64 x1, .int .i64 x2, .int .i64 x1, .int .i64 x3] 2)).cell? ⟨w5.heap.size, q5, none⟩ = some (.int .i64 y) := ⟨w1', nc⟩
      refine wpAnyH_take (i := 15) (v := ?_) rfl (by kernel_rfl) (by kernel_rfl) (by kernel_rfl) (fun _ _ _ h => h) (Or.inl ⟨by rfl, ?_⟩) (by assumption) ?_
      rotate_left 1
      · intro w hSw
        (try dsimp only at hSw)
        go_simp
        try with_reducible rfl
      try simp only [Act.put]
      refine wpAnyH_take (i := 16) (v := ?_) rfl (by kernel_rfl) (by kernel_rfl) (by kernel_rfl) (fun _ _ _ h => h) (Or.inl ⟨by rfl, ?_⟩) (by assumption) ?_
      rotate_left 1
      · intro w hSw
        (try dsimp only at hSw)
        go_simp
        try with_reducible rfl
      try simp only [Act.put]
      refine wpAnyH_take (i := 19) (v := ?_) rfl (by kernel_rfl) (by kernel_rfl) (by kernel_rfl) (fun _ _ _ h => h) (Or.inl ⟨by rfl, ?_⟩) (by assumption) ?_
      rotate_left 1
      · intro w hSw
        (try dsimp only at hSw)
        go_simp
        try with_reducible rfl
      simp only [Act.put, List.getElem_toArray, List.getElem_cons_succ, List.getElem_cons_zero, List.setIfInBounds_toArray, List.set_cons_succ, List.set_cons_zero]
      refine wpAnyH_done (by kernel_rfl) ?_ _
      clear hHeld2 hHeld3 hS2 w0 w1' nc
      go_wp2
      have f0 : (((((w5.setCell ⟨w.heap.size, 0, none⟩ (.int .i64 x0)).setCell ⟨w.heap.size, 1, none⟩ (.int .i64 x1)).setCell ⟨w.heap.size, 2, none⟩ (.int .i64 x2)).setCell ⟨w.heap.size, 3, none⟩ (.int .i64 x3)).alloc (.cells #[.int .i64 x0, .int .i64 x1, .int .i64 x2, .int .i64 x1, .int .i64 x3] 2)).cell? ⟨w.heap.size, 0, none⟩ = some (.int .i64 x0) := (World.cell?_alloc_some _ _ _ (by simp [go_sem, s0])).trans (by simp [go_sem, s0])
      have f1 : (((((w5.setCell ⟨w.heap.size, 0, none⟩ (.int .i64 x0)).setCell ⟨w.heap.size, 1, none⟩ (.int .i64 x1)).setCell ⟨w.heap.size, 2, none⟩ (.int .i64 x2)).setCell ⟨w.heap.size, 3, none⟩ (.int .i64 x3)).alloc (.cells #[.int .i64 x0, .int .i64 x1, .int .i64 x2, .int .i64 x1, .int .i64 x3] 2)).cell? ⟨w.heap.size, 1, none⟩ = some (.int .i64 x1) := (World.cell?_alloc_some _ _ _ (by simp [go_sem, s1])).trans (by simp [go_sem, s1])
      have f2 : (((((w5.setCell ⟨w.heap.size, 0, none⟩ (.int .i64 x0)).setCell ⟨w.heap.size, 1, none⟩ (.int .i64 x1)).setCell ⟨w.heap.size, 2, none⟩ (.int .i64 x2)).setCell ⟨w.heap.size, 3, none⟩ (.int .i64 x3)).alloc (.cells #[.int .i64 x0, .int .i64 x1, .int .i64 x2, .int .i64 x1, .int .i64 x3] 2)).cell? ⟨w.heap.size, 2, none⟩ = some (.int .i64 x2) := (World.cell?_alloc_some _ _ _ (by simp [go_sem, s2])).trans (by simp [go_sem, s2])
      have f3 : (((((w5.setCell ⟨w.heap.size, 0, none⟩ (.int .i64 x0)).setCell ⟨w.heap.size, 1, none⟩ (.int .i64 x1)).setCell ⟨w.heap.size, 2, none⟩ (.int .i64 x2)).setCell ⟨w.heap.size, 3, none⟩ (.int .i64 x3)).alloc (.cells #[.int .i64 x0, .int .i64 x1, .int .i64 x2, .int .i64 x1, .int .i64 x3] 2)).cell? ⟨w.heap.size, 3, none⟩ = some (.int .i64 x3) := (World.cell?_alloc_some _ _ _ (by simp [go_sem, s3])).trans (by simp [go_sem, s3])
      exact bodyPost_ret (v := .tuple #[.agg #[.int .i64 x0, .int .i64 x1, .int .i64 x2, .int .i64 x3], .string t, .int .i64 y]) (by simp [results, Try.results29, go_sem, f0, f1, f2, f3]) rfl ⟨x0, x1, x2, x3, t, y, rfl, by omega, ((((hD5.bel.setCell (p := ⟨w.heap.size, 0, none⟩) (Nat.le_refl _) _).setCell (p := ⟨w.heap.size, 1, none⟩) (Nat.le_refl _) _).setCell (p := ⟨w.heap.size, 2, none⟩) (Nat.le_refl _) _).setCell (p := ⟨w.heap.size, 3, none⟩) (Nat.le_refl _) _).alloc (by simp; omega) _⟩
end Go.Proofs.Ytcohoflilonnjaa
