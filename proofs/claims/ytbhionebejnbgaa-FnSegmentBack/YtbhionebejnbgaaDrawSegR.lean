/- Contract of the model's DrawSegmentRead: over a list of at most 1048576 bytes it tells four numbers and a text of at most 5000 bytes and writes nothing that was there. -/
import Derived.Test.YtbhionebejnbgaaDrawSeg
import Derived.Test.YtbhionebejnbgaaTextGS
import Derived.Deep.CutBlock
namespace Go.Proofs.Ytbhionebejnbgaa
open Go.ChangeShapes Go.WideShapes Go.ChangeAt Go.RowKit Go.Shelf
theorem textG_bd (a b c d : Int) (tag : ByteArray) (es : List (List ByteArray)) : (textG a b c d tag es).size ≤ 4000 := by
  unfold textG
  split
  · rename_i h
    simp only [Bool.and_eq_true] at h
    have h1 := segU_len (a := a) (b := b) (c := c) (d := d) h.2 _ (Nat.le_refl _)
    have h2 := (rightG_facts h.2).2.1
    have e : (⟨(textU a b c d tag es).toArray⟩ : ByteArray).size = (textU a b c d tag es).length := by simp [ByteArray.size]
    rw [e]
    unfold textU
    rw [List.length_append]
    simp
    omega
  · exact Nat.zero_le _
/-- What stands while a text is drawn: the source in B, the answer's block R ahead of it, the syntax in X. -/
structure DR (B R X : Nat) (w W : World) (x0 x1 x2 x3 : Int) : Prop where
  src : IsSrc B W
  bel : Below w.heap.size w W
  r : Box4 W R 0 0 0 0
  x : Box4 W X x0 x1 x2 x3
  rb : R < B
  bx : B < X
  wr : w.heap.size ≤ R
theorem DR.keep {B R X : Nat} {w W W' : World} {x0 x1 x2 x3 : Int} (h : DR B R X w W x0 x1 x2 x3) (hk : Keep B W W') (hs : IsSrc B W') : DR B R X w W' x0 x1 x2 x3 :=
  ⟨hs, h.bel.trans (hk.below (by have := h.rb; have := h.wr; omega) h.bel.size), h.r.keep hk (by have := h.rb; omega), h.x.keep hk (by have := h.bx; omega), h.rb, h.bx, h.wr⟩
theorem DR.below {B R X : Nat} {w W W' : World} {x0 x1 x2 x3 : Int} (h : DR B R X w W x0 x1 x2 x3) (hb : Below W.heap.size W W') : DR B R X w W' x0 x1 x2 x3 :=
  h.keep (Keep.of_below hb) (h.src.below (hb.mono (by have := h.src.lt; omega)))
set_option maxHeartbeats 8000000 in
theorem drawSegmentRead_any (a : Option Addr) (len cap : Nat) (zs : List Int) (w : World) (hl : len ≤ 1048576) (hr : BytesAt w a len zs) :
    Calls Try.prog 12 #[.slice a len cap] w fun e w' => ∃ (x0 x1 x2 x3 : Int) (t : ByteArray), e = .returned (.tuple #[.agg #[.int .i64 x0, .int .i64 x1, .int .i64 x2, .int .i64 x3], .string t]) ∧ t.size ≤ 5000 ∧ Below w.heap.size w w' := by
  have HR : Hid (BytesAt w a len zs) := hr
  clear hr
  go_enter Try.func12, Try.ntmps12
  go_wp2_with fail
  have b0 : Below w.heap.size w (w.alloc (.cells #[.int .i64 0, .int .i64 0, .int .i64 0, .int .i64 0] 24)) := (Below.refl _ _).alloc (Nat.le_refl _) _
  refine (source_any a len cap zs _ hl (bytesAt_belowS HR.out b0)).mono ?_
  rintro e w1 ⟨rfl, hS, hb1⟩
  rw [World.size_alloc] at hS
  have HS : Hid (IsSrc (w.heap.size + 1) w1 ∧ Below (w.alloc (.cells #[.int .i64 0, .int .i64 0, .int .i64 0, .int .i64 0] 24)).heap.size (w.alloc (.cells #[.int .i64 0, .int .i64 0, .int .i64 0, .int .i64 0] 24)) w1) := ⟨hS, hb1⟩
  clear hS hb1
  go_wp2_with fail
  refine (syntax_any _ _ HS.out.1).mono ?_
  rintro e w2 ⟨x0, x1, x2, x3, rfl, hS2, hk2⟩
  have hlt := hS2.lt
  have hD : DR (w.heap.size + 1) w.heap.size w2.heap.size w (w2.alloc (.cells #[.int .i64 x0, .int .i64 x1, .int .i64 x2, .int .i64 x3] 24)) x0 x1 x2 x3 := by
    have h1 : w.heap.size + 1 ≤ w1.heap.size := by have := HS.out.2.size; simpa using this
    have h2 := hk2.size
    have hw := World.size_alloc w (.cells #[.int .i64 0, .int .i64 0, .int .i64 0, .int .i64 0] 24)
    have b1 : Below w.heap.size w w2 := (b0.trans (HS.out.2.mono (by omega))).trans (hk2.below (by omega) (by omega))
    exact ⟨hS2.below ((Below.refl _ _).alloc (by omega) _), b1.alloc (by omega) _, (((Box4.new w 24 0 0 0 0).keep (Keep.of_below (B := w.heap.size + 1) HS.out.2) (by omega)).keep hk2 (by omega)).alloc _, Box4.new w2 24 x0 x1 x2 x3, by omega, by omega, Nat.le_refl _⟩
  have d0 := hD.x.c0
  have d1 := hD.x.c1
  have d2 := hD.x.c2
  have d3 := hD.x.c3
  have HD : Hid (DR (w.heap.size + 1) w.heap.size w2.heap.size w (w2.alloc (.cells #[.int .i64 x0, .int .i64 x1, .int .i64 x2, .int .i64 x3] 24)) x0 x1 x2 x3) := hD
  clear hD hS2 hk2 HS b0
  go_wp2_with fail
  go_region_held3 (fun W => W.cell? ⟨w2.heap.size, 0, none⟩ = some (.int .i64 x0) ∧ W.cell? ⟨w2.heap.size, 1, none⟩ = some (.int .i64 x1) ∧ W.cell? ⟨w2.heap.size, 2, none⟩ = some (.int .i64 x2) ∧ W.cell? ⟨w2.heap.size, 3, none⟩ = some (.int .i64 x3)) (go_keep) (first | (go_at_call 22; refine (l02Segment_any (w.heap.size + 1) _ (HD.out.src.below (Below.refl _ _).drew)).mono ?_; rintro e w4 ⟨tag, v4, vals, es, rfl, htz, hel, hO, hB, hs4, hk4⟩; have hD4 := HD.out.keep ((Keep.refl _ _).drew.trans hk4) hs4; have y0 := hD4.x.c0; have y1 := hD4.x.c1; have y2 := hD4.x.c2; have y3 := hD4.x.c3; have r4 := hO.rowE hB (by omega)) | (go_at_call 34; refine (text_seg_spec x0 x1 x2 x3 tag v4 es _ r4 (bdW_bdE hB hel)).mono ?_; rintro e w5 ⟨rfl, hb5⟩; have hD5 := hD4.below hb5; have z0 := hD5.x.c0; have z1 := hD5.x.c1; have z2 := hD5.x.c2; have z3 := hD5.x.c3))
  all_goals
    rename_i hHeld
    clear hHeld
    have htt := textG_bd x0 x1 x2 x3 tag es
    generalize textG x0 x1 x2 x3 tag es = T at *
    have HD5 : Hid (DR (w.heap.size + 1) w.heap.size w2.heap.size w w5 x0 x1 x2 x3) := hD5
    clear d0 d1 d2 d3 y0 y1 y2 y3 z0 z1 z2 z3 hD4 hD5 r4 hO hB hs4 hk4 HD
    go_wp2_with fail
    refine (one_any (w.heap.size + 1) 2 _ (by omega) (by omega) HD5.out.src).mono ?_
    rintro e w6 ⟨b6, rfl, hs6, hk6⟩
    have HD6 : Hid (DR (w.heap.size + 1) w.heap.size w2.heap.size w w6 x0 x1 x2 x3) := HD5.out.keep hk6 hs6
    clear hs6 hk6 HD5
    go_upto_if 16 with fail
    go_cut [6] from 17 to 19 (fun c wx => ∃ t : ByteArray, c = .string t ∧ t.size ≤ 4001 ∧ DR (w.heap.size + 1) w.heap.size w2.heap.size w wx x0 x1 x2 x3)
    case first =>
      cases b6
      · go_wp2_with fail
        go_meet
        case rel => exact ⟨T, rfl, by omega, HD6.out⟩
      · go_wp2_with fail
        refine (spoil_any (w.heap.size + 1) T _ (by omega) HD6.out.src).mono ?_
        rintro e w7 ⟨t7, rfl, hz7, hs7, hk7⟩
        have HD7 : Hid (DR (w.heap.size + 1) w.heap.size w2.heap.size w w7 x0 x1 x2 x3) := HD6.out.keep hk7 hs7
        clear hs7 hk7
        go_wp2_with fail
        go_meet
        case rel => exact ⟨t7, rfl, by omega, HD7.out⟩
    case rest =>
      obtain ⟨t, rfl, htz2, hDc⟩ := hcut
      have HDc : Hid (DR (w.heap.size + 1) w.heap.size w2.heap.size w wc x0 x1 x2 x3) := hDc
      clear hDc HD6
      go_wp2_with fail
      refine (one_any (w.heap.size + 1) 4 _ (by omega) (by omega) HDc.out.src).mono ?_
      rintro e w8 ⟨b8, rfl, hs8, hk8⟩
      have HD8 : Hid (DR (w.heap.size + 1) w.heap.size w2.heap.size w w8 x0 x1 x2 x3) := HDc.out.keep hk8 hs8
      clear hs8 hk8 HDc
      go_upto_if 21 with fail
      go_cut [6] from 22 to 27 (fun c wx => ∃ t : ByteArray, c = .string t ∧ t.size ≤ 5000 ∧ DR (w.heap.size + 1) w.heap.size w2.heap.size w wx x0 x1 x2 x3)
      case first =>
        cases b8
        · go_wp2_with fail
          go_meet
          case rel => exact ⟨t, rfl, by omega, HD8.out⟩
        · have d0 := HD8.out.x.c0
          have d1 := HD8.out.x.c1
          have d2 := HD8.out.x.c2
          have d3 := HD8.out.x.c3
          go_wp2_with fail
          go_region_law (first | (go_simp; go_at_call 38; refine (n_any (w.heap.size + 1) 16 _ (by omega) (by omega) (HD8.out.src.below (Below.refl _ _).drew)).mono ?_; rintro e w9 ⟨q9, rfl, hq90, hq91, hs9, hk9⟩; have hD9 := HD8.out.keep ((Keep.refl _ _).drew.trans hk9) hs9; have y0 := hD9.x.c0; have y1 := hD9.x.c1; have y2 := hD9.x.c2; have y3 := hD9.x.c3; try dsimp only) | (go_simp; go_at_call 37; refine (words_i (w.heap.size + 1) x0 x1 x2 x3 _ _ (by omega) hs9).mono ?_; rintro e w10 ⟨s10, rfl, hz10, hs10, hk10⟩; have hsum : ¬ 9223372036854775807 < 3 + s10.size := (by omega); have hD10 := hD9.keep hk10 hs10; have z0 := hD10.x.c0; have z1 := hD10.x.c1; have z2 := hD10.x.c2; have z3 := hD10.x.c3; try dsimp only))
          all_goals
            have HD10 : Hid (DR (w.heap.size + 1) w.heap.size w2.heap.size w w10 x0 x1 x2 x3) := hD10
            clear d0 d1 d2 d3 y0 y1 y2 y3 z0 z1 z2 z3 hD9 hD10 hs9 hk9 hs10 hk10
            go_wp2_with fail
            go_meet
          all_goals exact ⟨_, rfl, by rw [ByteArray.size_append]; have : (⟨#[65, 66, 67]⟩ : ByteArray).size = 3 := rfl; omega, HD10.out⟩
      case rest =>
        obtain ⟨t9, rfl, htz3, hDc⟩ := hcut
        have d0 := hDc.x.c0
        have d1 := hDc.x.c1
        have d2 := hDc.x.c2
        have d3 := hDc.x.c3
        have r0 := hDc.r.c0
        have r1 := hDc.r.c1
        have r2 := hDc.r.c2
        have r3 := hDc.r.c3
        have rz := hDc.r.fz
        have HDc : Hid (Below w.heap.size w wc) := hDc.bel
        have hne : w.heap.size ≠ w2.heap.size := by have := hDc.rb; have := hDc.bx; omega
        clear hDc HD8
        go_wp2_with fail
        exact bodyPost_ret (v := .tuple #[.agg #[.int .i64 x0, .int .i64 x1, .int .i64 x2, .int .i64 x3], .string t9]) (by simp [results, Try.results12, go_sem, r0, r1, r2, r3]) rfl ⟨x0, x1, x2, x3, t9, rfl, htz3, ((((HDc.out.setCell (Nat.le_refl _) _).setCell (Nat.le_refl _) _).setCell (Nat.le_refl _) _).setCell (Nat.le_refl _) _)⟩
end Go.Proofs.Ytbhionebejnbgaa
