/- Contracts of the model's draws of a syntax: a source tells four numbers of int64 and writes nothing that was there but its own block. -/
import Derived.Test.YtbdjaohfnbnacaaSrcNew
namespace Go.Proofs.Ytbdjaohfnbnacaa
open Go.ChangeShapes Go.WideShapes Go.ChangeAt Go.RowKit
theorem cell_lits (w : World) (t : Nat) (l : List Int) (i : Nat) (hi : i < l.length) : (w.alloc (.cells (l.map (Value.int .i64)).toArray t)).cell? ⟨w.heap.size, i, none⟩ = some (.int .i64 (l[i]?.getD 0)) := by
  simp [go_sem, hi]
/-- A block of four numbers. -/
structure Box4 (W : World) (b : Nat) (x0 x1 x2 x3 : Int) : Prop where
  c0 : W.cell? ⟨b, 0, none⟩ = some (.int .i64 x0)
  c1 : W.cell? ⟨b, 1, none⟩ = some (.int .i64 x1)
  c2 : W.cell? ⟨b, 2, none⟩ = some (.int .i64 x2)
  c3 : W.cell? ⟨b, 3, none⟩ = some (.int .i64 x3)
  fz : ∀ o, W.frozen? ⟨b, o, none⟩ = false
theorem Box4.lt {W : World} {b : Nat} {x0 x1 x2 x3 : Int} (h : Box4 W b x0 x1 x2 x3) : b < W.heap.size := cell_lt h.c0
theorem Box4.keep {B : Nat} {W W' : World} {b : Nat} {x0 x1 x2 x3 : Int} (h : Box4 W b x0 x1 x2 x3) (hk : Keep B W W') (hb : b ≠ B) : Box4 W' b x0 x1 x2 x3 :=
  ⟨hk.cell h.c0 hb, hk.cell h.c1 hb, hk.cell h.c2 hb, hk.cell h.c3 hb, fun o => (hk.frozen h.lt o hb).trans (h.fz o)⟩
theorem Box4.new (w : World) (t : Nat) (x0 x1 x2 x3 : Int) : Box4 (w.alloc (.cells #[.int .i64 x0, .int .i64 x1, .int .i64 x2, .int .i64 x3] t)) w.heap.size x0 x1 x2 x3 :=
  ⟨by simp [go_sem], by simp [go_sem], by simp [go_sem], by simp [go_sem], fun o => by simp [go_sem]⟩
theorem Box4.alloc {W : World} {b : Nat} {x0 x1 x2 x3 : Int} (h : Box4 W b x0 x1 x2 x3) (o : Obj) : Box4 (W.alloc o) b x0 x1 x2 x3 :=
  h.keep ((Keep.refl W.heap.size W).alloc o) (by have := h.lt; omega)
set_option maxHeartbeats 400000 in
theorem plain_any (w : World) : Calls Try.prog 25 #[] w fun e w' => e = .returned (.agg #[.int .i64 39, .int .i64 43, .int .i64 58, .int .i64 63]) ∧ Below w.heap.size w w' := by
  go_enter Try.func25, Try.ntmps25
  go_wp2
  exact bodyPost_ret (v := .agg #[.int .i64 39, .int .i64 43, .int .i64 58, .int .i64 63]) (by simp [results, Try.results25, go_sem]) rfl ⟨rfl, (Below.refl _ _).alloc (Nat.le_refl _) _⟩
set_option maxHeartbeats 400000 in
theorem edge_any (B : Nat) (w : World) (hS : IsSrc B w) :
    Calls Try.prog 28 #[.pointer (some ⟨B, 0, none⟩)] w fun e w' => ∃ v : Int, e = .returned (.int .i64 v) ∧ IsSrc B w' ∧ Keep B w w' := by
  have hlt := hS.lt
  have HS : Hid (IsSrc B w) := hS
  clear hS
  go_enter Try.func28, Try.ntmps28
  go_wp2_with fail
  refine (n_any B 14 _ (by omega) (by omega) (HS.out.below ((Below.refl _ _).alloc (by omega) _))).mono ?_
  rintro e w1 ⟨v, rfl, h0, h1, h2, h3⟩
  obtain ⟨k, rfl⟩ := Int.eq_ofNat_of_zero_le h0
  have hc := h3.cell (cell_lits w _ [0, 1, -1, 2, 1000, 1001, 2147483648, 2147483647, -2147483648, 4611686018427387904, 9223372036854775807, -9223372036854775808, 1000000, 1000001] k (by simp; omega)) (by omega)
  generalize (([0, 1, -1, 2, 1000, 1001, 2147483648, 2147483647, -2147483648, 4611686018427387904, 9223372036854775807, -9223372036854775808, 1000000, 1000001] : List Int)[k]?.getD 0) = r at hc
  have H2 : Hid (IsSrc B w1 ∧ Keep B w w1) := ⟨h2, ((Keep.refl _ _).alloc _).trans h3⟩
  clear h2 h3
  go_wp2
  go_ret
  exact ⟨_, rfl, H2.out.1, H2.out.2⟩
/-- What stands while a syntax is drawn: the source in block B, the result's block R, the variable's block X. -/
structure St (B R X : Nat) (w W : World) (x0 x1 x2 x3 : Int) : Prop where
  src : IsSrc B W
  kp : Keep B w W
  r : Box4 W R 0 0 0 0
  x : Box4 W X x0 x1 x2 x3
  br : B < R
  rx : R < X
  wr : w.heap.size ≤ R
theorem St.keep {B R X : Nat} {w W W' : World} {x0 x1 x2 x3 : Int} (h : St B R X w W x0 x1 x2 x3) (hk : Keep B W W') (hs : IsSrc B W') : St B R X w W' x0 x1 x2 x3 :=
  ⟨hs, h.kp.trans hk, h.r.keep hk (by have := h.br; omega), h.x.keep hk (by have := h.br; have := h.rx; omega), h.br, h.rx, h.wr⟩
theorem St.alloc {B R X : Nat} {w W : World} {x0 x1 x2 x3 : Int} (h : St B R X w W x0 x1 x2 x3) (o : Obj) : St B R X w (W.alloc o) x0 x1 x2 x3 :=
  h.keep ((Keep.refl _ _).alloc o) (h.src.below ((Below.refl _ _).alloc (by have := h.src.lt; omega) o))
theorem St.drew {B R X : Nat} {w W : World} {x0 x1 x2 x3 : Int} (h : St B R X w W x0 x1 x2 x3) : St B R X w W.drew x0 x1 x2 x3 :=
  h.keep (Keep.refl _ _).drew (h.src.below (Below.refl _ _).drew)
theorem Box4.other {W : World} {b b' : Nat} {x0 x1 x2 x3 : Int} (h : Box4 W b x0 x1 x2 x3) (o : Nat) (u : Value) (hb : b ≠ b') : Box4 (W.setCell ⟨b', o, none⟩ u) b x0 x1 x2 x3 :=
  h.keep ((Keep.refl b' W).setCell o u) hb
theorem St.of_set {B R X : Nat} {w W : World} {x0 x1 x2 x3 y0 y1 y2 y3 : Int} (h : St B R X w W x0 x1 x2 x3) (o : Nat) (u : Value) (hx : Box4 (W.setCell ⟨X, o, none⟩ u) X y0 y1 y2 y3) : St B R X w (W.setCell ⟨X, o, none⟩ u) y0 y1 y2 y3 := by
  have b1 := h.br
  have b2 := h.rx
  have b3 := h.wr
  exact ⟨h.src.below ((Below.refl _ _).setCell (p := ⟨X, o, none⟩) (show B + 1 ≤ X by omega) u), h.kp.setNew X o (by omega) u, h.r.other o u (by omega), hx, h.br, h.rx, h.wr⟩
theorem St.set0 {B R X : Nat} {w W : World} {x0 x1 x2 x3 : Int} (h : St B R X w W x0 x1 x2 x3) (y : Int) : St B R X w (W.setCell ⟨X, 0, none⟩ (.int .i64 y)) y x1 x2 x3 := by
  have c0 := h.x.c0
  have c1 := h.x.c1
  have c2 := h.x.c2
  have c3 := h.x.c3
  have fz := h.x.fz
  exact h.of_set 0 _ ⟨by simp [go_sem, c0], by simp [go_sem, c1], by simp [go_sem, c2], by simp [go_sem, c3], fun o => by simp [fz]⟩
theorem St.set1 {B R X : Nat} {w W : World} {x0 x1 x2 x3 : Int} (h : St B R X w W x0 x1 x2 x3) (y : Int) : St B R X w (W.setCell ⟨X, 1, none⟩ (.int .i64 y)) x0 y x2 x3 := by
  have c0 := h.x.c0
  have c1 := h.x.c1
  have c2 := h.x.c2
  have c3 := h.x.c3
  have fz := h.x.fz
  exact h.of_set 1 _ ⟨by simp [go_sem, c0], by simp [go_sem, c1], by simp [go_sem, c2], by simp [go_sem, c3], fun o => by simp [fz]⟩
theorem St.set2 {B R X : Nat} {w W : World} {x0 x1 x2 x3 : Int} (h : St B R X w W x0 x1 x2 x3) (y : Int) : St B R X w (W.setCell ⟨X, 2, none⟩ (.int .i64 y)) x0 x1 y x3 := by
  have c0 := h.x.c0
  have c1 := h.x.c1
  have c2 := h.x.c2
  have c3 := h.x.c3
  have fz := h.x.fz
  exact h.of_set 2 _ ⟨by simp [go_sem, c0], by simp [go_sem, c1], by simp [go_sem, c2], by simp [go_sem, c3], fun o => by simp [fz]⟩
theorem St.set3 {B R X : Nat} {w W : World} {x0 x1 x2 x3 : Int} (h : St B R X w W x0 x1 x2 x3) (y : Int) : St B R X w (W.setCell ⟨X, 3, none⟩ (.int .i64 y)) x0 x1 x2 y := by
  have c0 := h.x.c0
  have c1 := h.x.c1
  have c2 := h.x.c2
  have c3 := h.x.c3
  have fz := h.x.fz
  exact h.of_set 3 _ ⟨by simp [go_sem, c0], by simp [go_sem, c1], by simp [go_sem, c2], by simp [go_sem, c3], fun o => by simp [fz]⟩
theorem St.done {B R X : Nat} {w W : World} {x0 x1 x2 x3 : Int} (h : St B R X w W x0 x1 x2 x3) (v0 v1 v2 v3 : Value) : IsSrc B ((((W.setCell ⟨R, 0, none⟩ v0).setCell ⟨R, 1, none⟩ v1).setCell ⟨R, 2, none⟩ v2).setCell ⟨R, 3, none⟩ v3) ∧ Keep B w ((((W.setCell ⟨R, 0, none⟩ v0).setCell ⟨R, 1, none⟩ v1).setCell ⟨R, 2, none⟩ v2).setCell ⟨R, 3, none⟩ v3) :=
  ⟨h.src.below (((((Below.refl _ _).setCell (p := ⟨R, 0, none⟩) h.br v0).setCell (p := ⟨R, 1, none⟩) h.br v1).setCell (p := ⟨R, 2, none⟩) h.br v2).setCell (p := ⟨R, 3, none⟩) h.br v3), (((h.kp.setNew R 0 h.wr v0).setNew R 1 h.wr v1).setNew R 2 h.wr v2).setNew R 3 h.wr v3⟩
set_option maxHeartbeats 4000000 in
theorem syntax_any (B : Nat) (w : World) (hS : IsSrc B w) :
    Calls Try.prog 12 #[.pointer (some ⟨B, 0, none⟩)] w fun e w' => ∃ a b c d : Int, e = .returned (.agg #[.int .i64 a, .int .i64 b, .int .i64 c, .int .i64 d]) ∧ IsSrc B w' ∧ Keep B w w' := by
  have hlt := hS.lt
  have HS : Hid (IsSrc B w) := hS
  clear hS
  go_enter Try.func12, Try.ntmps12
  go_wp2_with fail
  refine (plain_any _).mono ?_
  rintro e w1 ⟨rfl, hb1⟩
  have hs1 : w.heap.size < w1.heap.size := by have := hb1.size; simp at this; omega
  have s0 : St B w.heap.size w1.heap.size w (w1.alloc (.cells #[.int .i64 39, .int .i64 43, .int .i64 58, .int .i64 63] 24)) 39 43 58 63 :=
    ⟨HS.out.below ((((Below.refl _ _).alloc (by omega) _).trans (hb1.mono (by simp; omega))).alloc (by omega) _), (((Keep.refl _ _).alloc _).trans (Keep.of_below hb1)).alloc _, ((Box4.new w 24 0 0 0 0).keep (Keep.of_below (B := w.heap.size + 1) hb1) (by omega)).alloc _, Box4.new w1 _ 39 43 58 63, hlt, hs1, Nat.le_refl _⟩
  clear hb1 HS
  have HT0 := s0.src
  go_wp2_with fail
  refine (one_any B 4 _ (by omega) (by omega) HT0).mono ?_
  rintro e w2 ⟨v1, rfl, hs2, hk2⟩
  have s2 := s0.keep hk2 hs2
  clear s0 HT0 hs2 hk2
  cases v1
  · have S : Hid (St B w.heap.size w1.heap.size w w2 39 43 58 63) := s2
    clear s2
    go_wp2_with fail
    refine (one_any B 30 _ (by omega) (by omega) (S.out).src).mono ?_
    rintro e w4 ⟨v2, rfl, hs4, hk4⟩
    have s4 := (S.out).keep hk4 hs4
    clear hs4 hk4
    cases v2
    · have H4 : Hid (St B w.heap.size w1.heap.size w w4 39 43 58 63) := s4
      have x0 := s4.x.c0
      have r0 := s4.r.c0
      have x1 := s4.x.c1
      have r1 := s4.r.c1
      have x2 := s4.x.c2
      have r2 := s4.r.c2
      have x3 := s4.x.c3
      have r3 := s4.r.c3
      have xz := s4.x.fz
      have rz := s4.r.fz
      clear s4
      go_wp2
      obtain ⟨d1, d2⟩ := St.done (H4.out) (.int .i64 39) (.int .i64 43) (.int .i64 58) (.int .i64 63)
      exact bodyPost_ret (v := .agg #[.int .i64 39, .int .i64 43, .int .i64 58, .int .i64 63]) (by simp [results, Try.results12, go_sem, r0, r1, r2, r3]) rfl ⟨_, _, _, _, rfl, d1, d2⟩
    · have H4 : Hid (St B w.heap.size w1.heap.size w w4 39 43 58 63) := s4
      clear s4
      go_wp2_with fail
      refine (n_any B 3 _ (by omega) (by omega) H4.out.src).mono ?_
      rintro e w5 ⟨v, rfl, g0, g1, hs5, hk5⟩
      have s5 := H4.out.keep hk5 hs5
      clear hs5 hk5 H4
      have hv : v = 0 ∨ v = 1 ∨ v = 2 := by omega
      clear g0 g1
      have H5 : Hid (St B w.heap.size w1.heap.size w w5 39 43 58 63) := s5
      have hx5 := s5.x.lt
      rcases hv with rfl | rfl | rfl
      · have x0 := s5.x.c0
        have x1 := s5.x.c1
        have x2 := s5.x.c2
        have x3 := s5.x.c3
        have r0 := s5.r.c0
        have r1 := s5.r.c1
        have r2 := s5.r.c2
        have r3 := s5.r.c3
        have xz := s5.x.fz
        have rz := s5.r.fz
        clear s5
        go_wp2
        obtain ⟨d1, d2⟩ := St.done (H5.out.set3 43) (.int .i64 39) (.int .i64 43) (.int .i64 58) (.int .i64 43)
        exact bodyPost_ret (v := .agg #[.int .i64 39, .int .i64 43, .int .i64 58, .int .i64 43]) (by simp [results, Try.results12, go_sem, r0, r1, r2, r3]) rfl ⟨_, _, _, _, rfl, d1, d2⟩
      · clear s5
        go_wp2_with fail
        refine (n_any B 6 _ (by omega) (by omega) (H5.out.alloc _).src).mono ?_
        rintro e w6 ⟨q, rfl, g0, g1, hs6, hk6⟩
        obtain ⟨q, rfl⟩ := Int.eq_ofNat_of_zero_le g0
        have s6 := (H5.out.alloc _).keep hk6 hs6
        have m0 := hk6.cell (cell_lits w5 _ [32, 127, 65, 48, 45, 300] q (by simp; omega)) (by have := H5.out.br; have := H5.out.rx; omega)
        generalize (([32, 127, 65, 48, 45, 300] : List Int)[q]?.getD 0) = z at m0
        have H6 : Hid (St B w.heap.size w1.heap.size w w6 39 43 58 63) := s6
        have x0 := s6.x.c0
        have r0 := s6.r.c0
        have x1 := s6.x.c1
        have r1 := s6.r.c1
        have x2 := s6.x.c2
        have r2 := s6.r.c2
        have x3 := s6.x.c3
        have r3 := s6.r.c3
        have xz := s6.x.fz
        have rz := s6.r.fz
        clear s6 hs6 hk6 H5
        go_wp2
        obtain ⟨d1, d2⟩ := St.done (H6.out.set2 z) (.int .i64 39) (.int .i64 43) (.int .i64 z) (.int .i64 63)
        exact bodyPost_ret (v := .agg #[.int .i64 39, .int .i64 43, .int .i64 z, .int .i64 63]) (by simp [results, Try.results12, go_sem, r0, r1, r2, r3]) rfl ⟨_, _, _, _, rfl, d1, d2⟩
      · clear s5
        go_wp2_with fail
        refine (edge_any B _ H5.out.src).mono ?_
        rintro e w6 ⟨z, rfl, hs6, hk6⟩
        have s6 := H5.out.keep hk6 hs6
        have H6 : Hid (St B w.heap.size w1.heap.size w w6 39 43 58 63) := s6
        have x0 := s6.x.c0
        have r0 := s6.r.c0
        have x1 := s6.x.c1
        have r1 := s6.r.c1
        have x2 := s6.x.c2
        have r2 := s6.r.c2
        have x3 := s6.x.c3
        have r3 := s6.r.c3
        have xz := s6.x.fz
        have rz := s6.r.fz
        clear s6 hs6 hk6 H5
        go_wp2
        obtain ⟨d1, d2⟩ := St.done (H6.out.set0 z) (.int .i64 z) (.int .i64 43) (.int .i64 58) (.int .i64 63)
        exact bodyPost_ret (v := .agg #[.int .i64 z, .int .i64 43, .int .i64 58, .int .i64 63]) (by simp [results, Try.results12, go_sem, r0, r1, r2, r3]) rfl ⟨_, _, _, _, rfl, d1, d2⟩
  · have S : Hid (St B w.heap.size w1.heap.size w w2 39 43 58 63) := s2
    have hx2 := s2.x.lt
    clear s2
    go_wp2_with fail
    refine (n_any B 9 _ (by omega) (by omega) (S.out.alloc _).src).mono ?_
    rintro e w3 ⟨k, rfl, h0, h1, hs3, hk3⟩
    obtain ⟨k, rfl⟩ := Int.eq_ofNat_of_zero_le h0
    have s3 := (S.out.alloc _).keep hk3 hs3
    have l0 := hk3.cell (cell_lits w2 _ [33, 35, 36, 37, 38, 42, 47, 61, 64, 94, 124, 126] k (by simp; omega)) (by have := S.out.br; have := S.out.rx; omega)
    have l1 := hk3.cell (cell_lits w2 _ [33, 35, 36, 37, 38, 42, 47, 61, 64, 94, 124, 126] (k + 1) (by simp; omega)) (by have := S.out.br; have := S.out.rx; omega)
    have l2 := hk3.cell (cell_lits w2 _ [33, 35, 36, 37, 38, 42, 47, 61, 64, 94, 124, 126] (k + 2) (by simp; omega)) (by have := S.out.br; have := S.out.rx; omega)
    have l3 := hk3.cell (cell_lits w2 _ [33, 35, 36, 37, 38, 42, 47, 61, 64, 94, 124, 126] (k + 3) (by simp; omega)) (by have := S.out.br; have := S.out.rx; omega)
    generalize (([33, 35, 36, 37, 38, 42, 47, 61, 64, 94, 124, 126] : List Int)[k]?.getD 0) = y0 at l0
    generalize (([33, 35, 36, 37, 38, 42, 47, 61, 64, 94, 124, 126] : List Int)[k + 1]?.getD 0) = y1 at l1
    generalize (([33, 35, 36, 37, 38, 42, 47, 61, 64, 94, 124, 126] : List Int)[k + 2]?.getD 0) = y2 at l2
    generalize (([33, 35, 36, 37, 38, 42, 47, 61, 64, 94, 124, 126] : List Int)[k + 3]?.getD 0) = y3 at l3
    have x0 := s3.x.c0
    have x1 := s3.x.c1
    have x2 := s3.x.c2
    have x3 := s3.x.c3
    have xz := s3.x.fz
    have S3 : Hid (St B w.heap.size w1.heap.size w w3 39 43 58 63) := s3
    have hne : w1.heap.size ≠ w2.heap.size := by omega
    clear s3 hs3 hk3 S
    go_wp2
    go_region
    go_wp2_with fail
    refine (one_any B 30 _ (by omega) (by omega) (((((S3.out.set0 y0).set1 y1).set2 y2).set3 y3).drew).src).mono ?_
    rintro e w4 ⟨v2, rfl, hs4, hk4⟩
    have s4 := (((((S3.out.set0 y0).set1 y1).set2 y2).set3 y3).drew).keep hk4 hs4
    clear hs4 hk4
    cases v2
    · have H4 : Hid (St B w.heap.size w1.heap.size w w4 y0 y1 y2 y3) := s4
      have x0 := s4.x.c0
      have r0 := s4.r.c0
      have x1 := s4.x.c1
      have r1 := s4.r.c1
      have x2 := s4.x.c2
      have r2 := s4.r.c2
      have x3 := s4.x.c3
      have r3 := s4.r.c3
      have xz := s4.x.fz
      have rz := s4.r.fz
      clear s4
      go_wp2
      obtain ⟨d1, d2⟩ := St.done (H4.out) (.int .i64 y0) (.int .i64 y1) (.int .i64 y2) (.int .i64 y3)
      exact bodyPost_ret (v := .agg #[.int .i64 y0, .int .i64 y1, .int .i64 y2, .int .i64 y3]) (by simp [results, Try.results12, go_sem, r0, r1, r2, r3]) rfl ⟨_, _, _, _, rfl, d1, d2⟩
    · have H4 : Hid (St B w.heap.size w1.heap.size w w4 y0 y1 y2 y3) := s4
      clear s4
      go_wp2_with fail
      refine (n_any B 3 _ (by omega) (by omega) H4.out.src).mono ?_
      rintro e w5 ⟨v, rfl, g0, g1, hs5, hk5⟩
      have s5 := H4.out.keep hk5 hs5
      clear hs5 hk5 H4
      have hv : v = 0 ∨ v = 1 ∨ v = 2 := by omega
      clear g0 g1
      have H5 : Hid (St B w.heap.size w1.heap.size w w5 y0 y1 y2 y3) := s5
      have hx5 := s5.x.lt
      rcases hv with rfl | rfl | rfl
      · have x0 := s5.x.c0
        have x1 := s5.x.c1
        have x2 := s5.x.c2
        have x3 := s5.x.c3
        have r0 := s5.r.c0
        have r1 := s5.r.c1
        have r2 := s5.r.c2
        have r3 := s5.r.c3
        have xz := s5.x.fz
        have rz := s5.r.fz
        clear s5
        go_wp2
        obtain ⟨d1, d2⟩ := St.done (H5.out.set3 y1) (.int .i64 y0) (.int .i64 y1) (.int .i64 y2) (.int .i64 y1)
        exact bodyPost_ret (v := .agg #[.int .i64 y0, .int .i64 y1, .int .i64 y2, .int .i64 y1]) (by simp [results, Try.results12, go_sem, r0, r1, r2, r3]) rfl ⟨_, _, _, _, rfl, d1, d2⟩
      · clear s5
        go_wp2_with fail
        refine (n_any B 6 _ (by omega) (by omega) (H5.out.alloc _).src).mono ?_
        rintro e w6 ⟨q, rfl, g0, g1, hs6, hk6⟩
        obtain ⟨q, rfl⟩ := Int.eq_ofNat_of_zero_le g0
        have s6 := (H5.out.alloc _).keep hk6 hs6
        have m0 := hk6.cell (cell_lits w5 _ [32, 127, 65, 48, 45, 300] q (by simp; omega)) (by have := H5.out.br; have := H5.out.rx; omega)
        generalize (([32, 127, 65, 48, 45, 300] : List Int)[q]?.getD 0) = z at m0
        have H6 : Hid (St B w.heap.size w1.heap.size w w6 y0 y1 y2 y3) := s6
        have x0 := s6.x.c0
        have r0 := s6.r.c0
        have x1 := s6.x.c1
        have r1 := s6.r.c1
        have x2 := s6.x.c2
        have r2 := s6.r.c2
        have x3 := s6.x.c3
        have r3 := s6.r.c3
        have xz := s6.x.fz
        have rz := s6.r.fz
        clear s6 hs6 hk6 H5
        go_wp2
        obtain ⟨d1, d2⟩ := St.done (H6.out.set2 z) (.int .i64 y0) (.int .i64 y1) (.int .i64 z) (.int .i64 y3)
        exact bodyPost_ret (v := .agg #[.int .i64 y0, .int .i64 y1, .int .i64 z, .int .i64 y3]) (by simp [results, Try.results12, go_sem, r0, r1, r2, r3]) rfl ⟨_, _, _, _, rfl, d1, d2⟩
      · clear s5
        go_wp2_with fail
        refine (edge_any B _ H5.out.src).mono ?_
        rintro e w6 ⟨z, rfl, hs6, hk6⟩
        have s6 := H5.out.keep hk6 hs6
        have H6 : Hid (St B w.heap.size w1.heap.size w w6 y0 y1 y2 y3) := s6
        have x0 := s6.x.c0
        have r0 := s6.r.c0
        have x1 := s6.x.c1
        have r1 := s6.r.c1
        have x2 := s6.x.c2
        have r2 := s6.r.c2
        have x3 := s6.x.c3
        have r3 := s6.r.c3
        have xz := s6.x.fz
        have rz := s6.r.fz
        clear s6 hs6 hk6 H5
        go_wp2
        obtain ⟨d1, d2⟩ := St.done (H6.out.set0 z) (.int .i64 z) (.int .i64 y1) (.int .i64 y2) (.int .i64 y3)
        exact bodyPost_ret (v := .agg #[.int .i64 z, .int .i64 y1, .int .i64 y2, .int .i64 y3]) (by simp [results, Try.results12, go_sem, r0, r1, r2, r3]) rfl ⟨_, _, _, _, rfl, d1, d2⟩
end Go.Proofs.Ytbdjaohfnbnacaa
