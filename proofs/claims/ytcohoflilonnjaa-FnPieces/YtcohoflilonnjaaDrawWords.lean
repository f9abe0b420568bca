/- Contract of the model's DrawEscape: over a list of at most 1048576 bytes it tells four numbers and a text of at most 20 bytes and writes nothing that was there. -/
import Derived.Test.YtcohoflilonnjaaWords
import Derived.Deep.RegionHeld3
namespace Go.Proofs.Ytcohoflilonnjaa
open Go.ChangeShapes Go.WideShapes Go.ChangeAt Go.RowKit
theorem bytesAt_below {w w' : World} {a : Option Addr} {len : Nat} {zs : List Int} (h : BytesAt w a len zs) (hb : Below w.heap.size w w') : BytesAt w' a len zs := by
  intro g
  obtain ⟨b, off, e, hc⟩ := h g
  exact ⟨b, off, e, fun i hi => (hb.cell (p := ⟨b, off + i, none⟩) (cell_lt (hc i hi))).trans (hc i hi)⟩
/-- What stands while a draw goes on: the source in block B, the result's block R ahead of it, the syntax's block X behind it. -/
structure DS (B R X : Nat) (w W : World) (x0 x1 x2 x3 : Int) : Prop where
  src : IsSrc B W
  bel : Below w.heap.size w W
  r : Box4 W R 0 0 0 0
  x : Box4 W X x0 x1 x2 x3
  rb : R < B
  bx : B < X
  wr : w.heap.size ≤ R
theorem DS.keep {B R X : Nat} {w W W' : World} {x0 x1 x2 x3 : Int} (h : DS B R X w W x0 x1 x2 x3) (hk : Keep B W W') (hs : IsSrc B W') : DS B R X w W' x0 x1 x2 x3 :=
  ⟨hs, h.bel.trans (hk.below (by have := h.rb; have := h.wr; omega) h.bel.size), h.r.keep hk (by have := h.rb; omega), h.x.keep hk (by have := h.bx; omega), h.rb, h.bx, h.wr⟩
theorem DS.drew {B R X : Nat} {w W : World} {x0 x1 x2 x3 : Int} (h : DS B R X w W x0 x1 x2 x3) : DS B R X w W.drew x0 x1 x2 x3 := h.keep (Keep.refl _ _).drew (h.src.below (Below.refl _ _).drew)
theorem DS.alloc {B R X : Nat} {w W : World} {x0 x1 x2 x3 : Int} (h : DS B R X w W x0 x1 x2 x3) (o : Obj) : DS B R X w (W.alloc o) x0 x1 x2 x3 :=
  h.keep ((Keep.refl _ _).alloc o) (h.src.below ((Below.refl _ _).alloc (by have := h.src.lt; omega) o))
theorem DS.begun {w w1 w2 : World} {t : Nat} {x0 x1 x2 x3 : Int} (hb : Below (w.alloc (.cells #[.int .i64 0, .int .i64 0, .int .i64 0, .int .i64 0] t)).heap.size (w.alloc (.cells #[.int .i64 0, .int .i64 0, .int .i64 0, .int .i64 0] t)) w1) (hs2 : IsSrc (w.heap.size + 1) w2) (hk2 : Keep (w.heap.size + 1) w1 w2) :
    DS (w.heap.size + 1) w.heap.size w2.heap.size w (w2.alloc (.cells #[.int .i64 x0, .int .i64 x1, .int .i64 x2, .int .i64 x3] t)) x0 x1 x2 x3 := by
  have h1 : w.heap.size + 1 ≤ w1.heap.size := by have := hb.size; simpa using this
  have h2 := hk2.size
  have hlt := hs2.lt
  have hw := World.size_alloc w (.cells #[.int .i64 0, .int .i64 0, .int .i64 0, .int .i64 0] t)
  have b1 : Below w.heap.size w w2 := (((Below.refl _ _).alloc (Nat.le_refl _) _).trans (hb.mono (by omega))).trans (hk2.below (by omega) (by omega))
  refine ⟨hs2.below ((Below.refl _ _).alloc (by omega) _), b1.alloc (by omega) _, (((Box4.new w t 0 0 0 0).keep (Keep.of_below (B := w.heap.size + 1) hb) (by omega)).keep hk2 (by omega)).alloc _, Box4.new w2 t x0 x1 x2 x3, by omega, by omega, Nat.le_refl _⟩
theorem n_st {B R X : Nat} {w W : World} {x0 x1 x2 x3 : Int} (most : Int) (hm : 1 < most) (hm2 : most ≤ 1000) (h : DS B R X w W x0 x1 x2 x3) :
    Calls Try.prog 35 #[.pointer (some ⟨B, 0, none⟩), .int .i64 most] W fun e w' => ∃ v : Nat, e = .returned (.int .i64 (v : Int)) ∧ (v : Int) < most ∧ DS B R X w w' x0 x1 x2 x3 ∧ w'.cell? ⟨X, 0, none⟩ = some (.int .i64 x0) ∧ w'.cell? ⟨X, 1, none⟩ = some (.int .i64 x1) ∧ w'.cell? ⟨X, 2, none⟩ = some (.int .i64 x2) ∧ w'.cell? ⟨X, 3, none⟩ = some (.int .i64 x3) := by
  refine (n_any B most W hm (by omega) h.src).mono ?_
  rintro e w' ⟨v, rfl, h0, h1, hs, hk⟩
  obtain ⟨v, rfl⟩ := Int.eq_ofNat_of_zero_le h0
  have h2 := h.keep hk hs
  exact ⟨v, rfl, h1, h2, h2.x.c0, h2.x.c1, h2.x.c2, h2.x.c3⟩
theorem words_st {B R X : Nat} {w W : World} {x0 x1 x2 x3 : Int} (n : Nat) (hn : n ≤ 1000) (h : DS B R X w W x0 x1 x2 x3) :
    Calls Try.prog 34 #[.pointer (some ⟨B, 0, none⟩), .agg #[.int .i64 x0, .int .i64 x1, .int .i64 x2, .int .i64 x3], .int .i64 (n : Int)] W fun e w' => ∃ t, e = .returned (.string t) ∧ t.size ≤ n ∧ DS B R X w w' x0 x1 x2 x3 ∧ w'.cell? ⟨X, 0, none⟩ = some (.int .i64 x0) ∧ w'.cell? ⟨X, 1, none⟩ = some (.int .i64 x1) ∧ w'.cell? ⟨X, 2, none⟩ = some (.int .i64 x2) ∧ w'.cell? ⟨X, 3, none⟩ = some (.int .i64 x3) ∧ w'.cell? ⟨R, 0, none⟩ = some (.int .i64 0) ∧ w'.cell? ⟨R, 1, none⟩ = some (.int .i64 0) ∧ w'.cell? ⟨R, 2, none⟩ = some (.int .i64 0) ∧ w'.cell? ⟨R, 3, none⟩ = some (.int .i64 0) ∧ (∀ o, w'.frozen? ⟨R, o, none⟩ = false) := by
  refine (words_any B x0 x1 x2 x3 n W hn h.src).mono ?_
  rintro e w' ⟨t, rfl, h1, hs, hk⟩
  have h2 := h.keep hk hs
  exact ⟨t, rfl, h1, h2, h2.x.c0, h2.x.c1, h2.x.c2, h2.x.c3, h2.r.c0, h2.r.c1, h2.r.c2, h2.r.c3, h2.r.fz⟩
set_option maxHeartbeats 1000000 in
theorem drawEscape_any (a : Option Addr) (len cap : Nat) (zs : List Int) (w : World) (hl : len ≤ 1048576) (hr : BytesAt w a len zs) :
    Calls Try.prog 9 #[.slice a len cap] w fun e w' => ∃ (x0 x1 x2 x3 : Int) (t : ByteArray), e = .returned (.tuple #[.agg #[.int .i64 x0, .int .i64 x1, .int .i64 x2, .int .i64 x3], .string t]) ∧ t.size ≤ 20 ∧ Below w.heap.size w w' := by
  have HR : Hid (BytesAt w a len zs) := hr
  clear hr
  go_enter Try.func9, Try.ntmps9
  go_wp2_with fail
  refine (source_any a len cap zs _ hl (bytesAt_below HR.out ((Below.refl _ _).alloc (Nat.le_refl _) _))).mono ?_
  rintro e w1 ⟨rfl, hS, hb1⟩
  have HS : Hid (IsSrc (w.alloc (.cells #[.int .i64 0, .int .i64 0, .int .i64 0, .int .i64 0] 24)).heap.size w1 ∧ Below (w.alloc (.cells #[.int .i64 0, .int .i64 0, .int .i64 0, .int .i64 0] 24)).heap.size (w.alloc (.cells #[.int .i64 0, .int .i64 0, .int .i64 0, .int .i64 0] 24)) w1) := ⟨hS, hb1⟩
  clear hS hb1
  go_wp2_with fail
  refine (syntax_any _ _ (by have := HS.out.1; rwa [World.size_alloc] at this)).mono ?_
  rintro e w2 ⟨x0, x1, x2, x3, rfl, hS2, hk2⟩
  have hD := DS.begun (x0 := x0) (x1 := x1) (x2 := x2) (x3 := x3) HS.out.2 hS2 hk2
  have d0 := hD.x.c0
  have d1 := hD.x.c1
  have d2 := hD.x.c2
  have d3 := hD.x.c3
  have hne1 : w2.heap.size ≠ w.heap.size := by have := hD.rb; have := hD.bx; omega
  have hne2 : w.heap.size ≠ w2.heap.size := hne1.symm
  clear hS2 hk2 HS
  go_wp2_with fail
  go_region_held3 (fun w' => w'.cell? ⟨w2.heap.size, 0, none⟩ = some (.int .i64 x0) ∧ w'.cell? ⟨w2.heap.size, 1, none⟩ = some (.int .i64 x1) ∧ w'.cell? ⟨w2.heap.size, 2, none⟩ = some (.int .i64 x2) ∧ w'.cell? ⟨w2.heap.size, 3, none⟩ = some (.int .i64 x3)) (go_keep)
    (first | (go_at_call 35; refine (n_st 20 (by omega) (by omega) hD.drew).mono ?_; rintro e w3 ⟨q, rfl, hq, hD3, y0, y1, y2, y3⟩)
           | (go_at_call 34; refine (words_st q (by omega) hD3).mono ?_; rintro e w4 ⟨t, rfl, ht, hD4, z0, z1, z2, z3, r0, r1, r2, r3, rz⟩))
  clear d0 d1 d2 d3 y0 y1 y2 y3 z0 z1 z2 z3 hD hD3
  rename_i hHeld
  clear hHeld
  have HD : Hid (DS (w.heap.size + 1) w.heap.size w2.heap.size w w4 x0 x1 x2 x3) := hD4
  clear hD4
  go_wp2
  exact bodyPost_ret (v := .tuple #[.agg #[.int .i64 x0, .int .i64 x1, .int .i64 x2, .int .i64 x3], .string t]) (by simp [results, Try.results9, go_sem, r0, r1, r2, r3]) rfl ⟨x0, x1, x2, x3, t, rfl, by omega, ((((HD.out.bel.setCell (Nat.le_refl _) _).setCell (Nat.le_refl _) _).setCell (Nat.le_refl _) _).setCell (Nat.le_refl _) _)⟩
end Go.Proofs.Ytcohoflilonnjaa
