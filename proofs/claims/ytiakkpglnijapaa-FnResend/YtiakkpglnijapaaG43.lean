/- Texts of ours put together: RnS. -/
import Derived.Test.YtiakkpglnijapaaG32
import Derived.Test.YtiakkpglnijapaaG42
import Derived.Deep.OwnRows
namespace Go.Proofs.Ytiakkpglnijapaa
open Go.ChangeShapes Go.WideShapes Go.ChangeAt Go.RowKit
open Go.Sort
/-- What is still to be sent: the message, or nothing. -/
def Rest (ls : List OutR) (x : OutR) : Prop := (ls = [x] ∧ OuOk x) ∨ (ls = [] ∧ x.tries = 5)
theorem rest_tick {ls : List OutR} {x : OutR} {ds : List Int} {k : Nat} {d : Int} (h : Rest ls x) (hd : dayB d = true) (hs : ds[k]? = some d) :
    ∃ x', Rest (tckO ls d).list x' ∧ (tckO ls d).code = 0 ∧ (tckO ls d).sent.length ≤ 1 ∧ (x'.partner = x.partner ∧ x'.text = x.text) ∧ runD x (ds.drop k) = (if (tckO ls d).sent.length = 0 then [] else [d]) ++ runD x' (ds.drop (k + 1)) := by
  rcases h with ⟨rfl, hx⟩ | ⟨rfl, hx⟩
  · rw [tck_one hx hd, runD_step hs]
    cases hsn : sntB d x with
    | true =>
      have hl := snt_lst hsn
      refine ⟨trdO d x, .inl ⟨?_, trd_ok hx hsn hd⟩, rfl, ?_, ⟨rfl, rfl⟩, ?_⟩
      · simp [tLi, kepL, hl, aftO, hsn]
      · simp [tSe, hsn]
      · simp [tSe, hsn]
    | false =>
      cases hl : lstB d x with
      | true =>
        refine ⟨x, .inr ⟨?_, ?_⟩, rfl, ?_, ⟨rfl, rfl⟩, ?_⟩
        · simp [tLi, kepL, hl]
        · simp only [lstB, Bool.and_eq_true, decide_eq_true_eq] at hl
          exact hl.2
        · simp [tSe, hsn]
        · simp [tSe, hsn]
      | false =>
        refine ⟨x, .inl ⟨?_, hx⟩, rfl, ?_, ⟨rfl, rfl⟩, ?_⟩
        · simp [tLi, kepL, hl, aftO, hsn]
        · simp [tSe, hsn]
        · simp [tSe, hsn]
  · rw [tck_nil hd, runD_step hs]
    refine ⟨x, .inr ⟨rfl, hx⟩, rfl, by simp, ⟨rfl, rfl⟩, ?_⟩
    rw [if_neg (by simp [sntB, hx])]
    simp
theorem lou_grown {b base n : Nat} {W W' : World} {v lv : Value} {ls : List OutR} {xs : List Value} (h : LOu b W v ls) (ho : W.ownsRow base 2 1 lv n xs) (hg : W.grownBy W' lv.ownBlock) : LOu b W' v ls := by
  refine h.of_block fun hn => ?_
  obtain ⟨a, cap, _, hc⟩ := h.shape
  obtain ⟨_, m, f, hR, _⟩ := hc hn
  obtain ⟨cur, hh, _⟩ := hR
  refine hg.block b (Array.getElem?_eq_some_iff.1 hh).1 fun e => own_apart ho hh (by decide) e.symm
theorem lou_one (W : World) (c : OutR) (hz : c.partner.size ≤ 9223372036854775807 ∧ c.text.size ≤ 9223372036854775807) : LOu W.heap.size (W.alloc (.cells #[.string c.partner, .int .i64 c.number, .string c.text, .int .i64 c.tries, .int .i64 c.due] 25)) (.slice (some ⟨W.heap.size, 0, none⟩) 1 1) [c] := by
  have h : (W.alloc (.cells #[.string c.partner, .int .i64 c.number, .string c.text, .int .i64 c.tries, .int .i64 c.due] 25)).ownsRow W.heap.size 25 5 (.slice (some ⟨W.heap.size, 0, none⟩) ([c] : List OutR).length 1) ([c] : List OutR).length (clOus [c]) :=
    ⟨rfl, .inr ⟨W.heap.size, 1, _, rfl, Nat.le_refl _, World.alloc_heap_new _ _, Nat.le_refl _, by decide, rfl, rfl⟩⟩
  obtain ⟨b, hb, hL⟩ := LOu.of_owns h (by simp) (fun i g hi => by
    match i, hi with
    | 0, hi => cases hi; exact hz
    | i + 1, hi => simp at hi)
  obtain ⟨a, cap, e, hc⟩ := hL.shape
  have := (hc (by simp)).1
  simp only [Value.slice.injEq] at e
  rw [← e.1] at this
  simp only [Option.some.injEq, Addr.mk.injEq, and_true] at this
  rw [← this] at hL
  exact hL
set_option maxRecDepth 20000 in
set_option maxHeartbeats 8000000 in
theorem outboxRun_spec (o : OutR) (v : Value) (ds : List Int) (w : World) (h : RowN w v ds) (hz : o.partner.size ≤ 9223372036854775807 ∧ o.text.size ≤ 9223372036854775807) : Calls Try.prog 13 #[.agg #[.string o.partner, .int .i64 o.number, .string o.text, .int .i64 o.tries, .int .i64 o.due], v] w fun e w' => ∃ u, e = .returned u ∧ RowN w' u (runO o ds) ∧ Below w.heap.size w w' := by
  have hlen := h.len
  obtain ⟨A, C, rfl⟩ := h.val
  obtain ⟨W0, hW0⟩ : ∃ W0, (w.alloc (.cells #[.string o.partner, .int .i64 o.number, .string o.text, .int .i64 o.tries, .int .i64 o.due] 25)).alloc (.cells #[] 2) = W0 := ⟨_, rfl⟩
  obtain ⟨B, hB⟩ : ∃ B, B = w.heap.size := ⟨_, rfl⟩
  obtain ⟨D, hD⟩ : ∃ D, D = w.heap.size + 1 := ⟨_, rfl⟩
  have hb0 : Below w.heap.size w W0 := by rw [← hW0]; exact ((Below.refl _ _).alloc (Nat.le_refl _) _).alloc (by simp) _
  have hx0 : W0.heap[B]? = some (.cells #[.string o.partner, .int .i64 o.number, .string o.text, .int .i64 o.tries, .int .i64 o.due] 25) := by
    rw [← hW0, hB, ((Below.refl _ (w.alloc (.cells #[.string o.partner, .int .i64 o.number, .string o.text, .int .i64 o.tries, .int .i64 o.due] 25))).alloc (Nat.le_refl _) _).block _ (by simp)]
    exact World.alloc_heap_new _ _
  have ho0 : W0.ownsRow w.heap.size 2 1 (.slice (some ⟨D, 0, none⟩) ([] : List Int).length 0) ([] : List Int).length (([] : List Int).map (Value.int .i64)) := by
    have e : D = (w.alloc (.cells #[.string o.partner, .int .i64 o.number, .string o.text, .int .i64 o.tries, .int .i64 o.due] 25)).heap.size := by rw [hD]; simp
    rw [← hW0, e]
    exact ⟨rfl, .inr ⟨_, 0, #[], rfl, by simp, World.alloc_heap_new _ _, Nat.le_refl _, Nat.zero_le _, rfl, rfl⟩⟩
  have H0 : Hid (Below w.heap.size w W0 ∧ W0.heap[B]? = some (.cells #[.string o.partner, .int .i64 o.number, .string o.text, .int .i64 o.tries, .int .i64 o.due] 25) ∧ RowN w (.slice A ds.length C) ds) := ⟨hb0, hx0, h⟩
  have HO0 : Hid (W0.ownsRow w.heap.size 2 1 (.slice (some ⟨D, 0, none⟩) ([] : List Int).length 0) ([] : List Int).length (([] : List Int).map (Value.int .i64))) := ho0
  have hBs : B < W0.heap.size := (Array.getElem?_eq_some_iff.1 hx0).1
  have HNO : Hid (∀ W, ¬ RunOk o ds → Below w.heap.size w W → ∃ u, Ending.returned (.slice (some ⟨D, 0, none⟩) 0 0) = .returned u ∧ RowN W u (runO o ds) ∧ Below w.heap.size w W) := fun W hn hW => ⟨_, rfl, by rw [runO_no hn]; exact ⟨⟨_, _, rfl, fun h => absurd rfl h⟩, by simp⟩, hW⟩
  go_enter Try.func13, Try.ntmps13
  go_upto_region 2 with fail
  try rw [hW0]
  try rw [← hD]
  try rw [← hB]
  have HBE : Hid (B = w.heap.size ∧ D = w.heap.size + 1) := ⟨hB, hD⟩
  clear hW0 hB hD hb0 h ho0
  obtain ⟨q0, q1, q2, q3, q4⟩ := box5 hx0
  clear hx0
  by_cases hl : 400 < ds.length
  · have hl' : (400 : Int) < (ds.length : Int) := by omega
    go_wp2
    go_ret
    exact HNO.out _ (fun h => by have := h.len; omega) H0.out.1
  have hl' : ¬ (400 : Int) < (ds.length : Int) := by omega
  obtain ⟨ok, hok⟩ : ∃ ok, ok = ouB o := ⟨_, rfl⟩
  have Q1 := fun w => l12Out_grows o w hz.2
  rw [← hok] at Q1
  have HOK : Hid (ok = ouB o) := hok
  clear hok
  go_wp2_with fail
  refine (Q1 _).mono ?_
  rintro e w1 ⟨rfl, hg1⟩
  have hb1 := GrwU.below hg1
  have H1 : Hid (Below w.heap.size w w1 ∧ w1.heap[B]? = some (.cells #[.string o.partner, .int .i64 o.number, .string o.text, .int .i64 o.tries, .int .i64 o.due] 25) ∧ w1.ownsRow w.heap.size 2 1 (.slice (some ⟨D, 0, none⟩) ([] : List Int).length 0) ([] : List Int).length (([] : List Int).map (Value.int .i64))) := ⟨H0.out.1.trans (hb1.mono H0.out.1.size), (hb1.block _ hBs).trans H0.out.2.1, own_belowN HO0.out hb1⟩
  clear hb1 hg1 q0 q1 q2 q3 q4 Q1 HO0
  cases ok with
  | false =>
    go_wp2
    go_ret
    exact HNO.out _ (fun h => ouB_iff'.1 HOK.out.symm h.ok) H1.out.1
  | true =>
  go_wp2_with fail
  go_loopw [6] (fun i wr => ∃ k : Nat, i = .int .i64 (k : Int) ∧ k ≤ ds.length ∧ Below w1.heap.size w1 wr ∧ ∀ i d, i < k → ds[i]? = some d → dayB d = true ∧ ∀ e, 0 < i → ds[i - 1]? = some e → e < d) (fun i _ => ds.length - (intOf i).toNat)
  case atStart => exact ⟨0, rfl, by omega, Below.refl _ _, fun i d hi => by omega⟩
  case round =>
    obtain ⟨k, rfl, hk, hb, hok⟩ := hrel
    have HI : Hid (Below w1.heap.size w1 wr ∧ ∀ i d, i < k → ds[i]? = some d → dayB d = true ∧ ∀ e, 0 < i → ds[i - 1]? = some e → e < d) := ⟨hb, hok⟩
    have HW : Hid (Below w.heap.size w wr) := H1.out.1.trans (hb.mono H1.out.1.size)
    clear hok hb
    by_cases hlt : k < ds.length
    · have hlt' : (k : Int) < (ds.length : Int) := by omega
      obtain ⟨bb, oo, cap', d, e, hs, q0⟩ := (H0.out.2.2.below HW.out).at hlt
      simp only [Value.slice.injEq, true_and] at e
      obtain ⟨rfl, rfl⟩ := e
      have HS : Hid (ds[k]? = some d) := hs
      clear hs
      obtain ⟨x, hx⟩ : ∃ x, x = dayB d := ⟨_, rfl⟩
      have Q1 : ∀ w, Calls Try.prog 36 #[.int .i64 d] w fun e w' => e = .returned (.bool x) ∧ ∃ q os', w' = grow (w.drewN q) os' := fun w => (l01Day_any d w).mono fun _ w' ⟨h1, h2⟩ => ⟨by rw [hx]; exact h1, 0, #[], by rw [h2, grow_empty]; rfl⟩
      have HX : Hid (x = dayB d) := hx
      clear hx
      have l0 := cell_lt q0
      have f0 := cell_grown l0 q0
      have mixed : Try.prog.follows .mixedOrders = true := by kernel_rfl
      obtain ⟨bad, hbad⟩ : ∃ bad : Bool, bad = !(x && (if k = 0 then true else ((ds[k - 1]?).map fun e => decide (e < d)).getD true)) := ⟨_, rfl⟩
      go_upto_region 7 with fail
      go_cut [47] from 26 to 46 (fun t wx => t = .bool bad ∧ Below w1.heap.size w1 wx)
      case first =>
        cases x with
        | false =>
          obtain rfl : bad = true := by rw [hbad]; rfl
          clear hbad q0
          refine wp_region_quiet_grown mixed (by kernel_rfl) ?_
          repeat (go_big_quiet_step (first | (go_at_call 36; refine Calls.grown_of (Q1 _))))
          refine wpQuiet_nil ?_
          intro _ hw'
          obtain ⟨⟨nq, osq⟩, hw''⟩ := hw'
          subst hw''
          go_wp2_with fail
          go_meet
          exact ⟨rfl, HI.out.1.trans ((GrwU.below ⟨nq, osq, rfl⟩).mono HI.out.1.size)⟩
        | true =>
          rcases Nat.eq_zero_or_pos k with k0 | k0
          · obtain rfl : bad = false := by rw [hbad, if_pos k0]; rfl
            have d4 : decide (0 < (k : Int)) = false := by simp; omega
            have d4' : decide (0 < k) = false := by simp; omega
            clear hbad k0 q0
            refine wp_region_quiet_grown mixed (by kernel_rfl) ?_
            repeat (go_big_quiet_step (first | (go_at_call 36; refine Calls.grown_of (Q1 _))))
            refine wpQuiet_nil ?_
            intro _ hw'
            obtain ⟨⟨nq, osq⟩, hw''⟩ := hw'
            subst hw''
            go_wp2_with fail
            go_meet
            exact ⟨rfl, HI.out.1.trans ((GrwU.below ⟨nq, osq, rfl⟩).mono HI.out.1.size)⟩
          · obtain ⟨j, rfl⟩ : ∃ j, k = j + 1 := ⟨k - 1, by omega⟩
            have d4 : (0 : Int) < ((j + 1 : Nat) : Int) := by omega
            have d5 : (0 : Int) < (j : Int) + 1 := by omega
            have i0 : (0 : Int) ≤ (j : Int) := by omega
            have i2 : (j : Int) < (ds.length : Int) := by omega
            have i3 : IntKind.i64.wrap ((j : Int) + 1 - 1) = (j : Int) := by rw [show (j : Int) + 1 - 1 = (j : Int) by omega]; simp [IntKind.wrap, IntKind.bits, IntKind.signed]; omega
            have i4 : IntKind.i64.wrap (j : Int) = (j : Int) := by simp [IntKind.wrap, IntKind.bits, IntKind.signed]; omega
            obtain ⟨b2, o2, cap2, y, e, hs, p0⟩ := (H0.out.2.2.below HW.out).at (k := j) (by omega)
            simp only [Value.slice.injEq, Option.some.injEq, Addr.mk.injEq, true_and, and_true] at e
            obtain ⟨⟨rfl, rfl⟩, rfl⟩ := e
            have g0 := cell_grown (cell_lt p0) p0
            have HBB : Hid (bad = decide (d ≤ y)) := by
              show bad = decide (d ≤ y)
              rw [hbad, if_neg (by omega), show j + 1 - 1 = j by omega, hs]
              by_cases hdy : d ≤ y
              · have : ¬ y < d := by omega
                simp [hdy, this]
              · have : y < d := by omega
                simp [hdy, this]
            clear hs hbad q0 p0
            refine wp_region_quiet_grown mixed (by kernel_rfl) ?_
            repeat (go_big_quiet_step (first | (go_at_call 36; refine Calls.grown_of (Q1 _))))
            refine wpQuiet_nil ?_
            intro _ hw'
            obtain ⟨⟨nq, osq⟩, hw''⟩ := hw'
            subst hw''
            go_wp2_with fail
            go_meet
            exact ⟨by rw [HBB.out], HI.out.1.trans ((GrwU.below ⟨nq, osq, rfl⟩).mono HI.out.1.size)⟩
      case rest =>
        obtain ⟨rfl, hb5⟩ := hcut
        rename World => w5
        have H5 : Hid (Below w1.heap.size w1 w5) := hb5
        clear hb5
        have HD : Hid (bad = !(dayB d && (if k = 0 then true else ((ds[k - 1]?).map fun e => decide (e < d)).getD true))) := by rw [HX.out] at hbad; exact hbad
        clear hbad q0 f0
        cases bad with
        | true =>
          have HN : Hid (¬ RunOk o ds) := fun h => by
            have h1 := h.ris.at_ k d HS.out
            have h2 := HD.out
            rw [h1.1] at h2
            by_cases k0 : k = 0
            · rw [if_pos k0] at h2; simp at h2
            · rw [if_neg k0, List.getElem?_eq_getElem (show k - 1 < ds.length by omega)] at h2
              have := h1.2 _ (by omega) (List.getElem?_eq_getElem (show k - 1 < ds.length by omega))
              simp at h2
              omega
          go_wp2
          go_ret
          exact HNO.out _ HN.out (H1.out.1.trans (H5.out.mono H1.out.1.size))
        | false =>
          have HN : Hid (dayB d = true ∧ ∀ e, 0 < k → ds[k - 1]? = some e → e < d) := by
            have h2 := HD.out
            have hd : dayB d = true := by
              cases hd : dayB d
              · rw [hd] at h2; simp at h2
              · rfl
            refine ⟨hd, fun e k0 he => ?_⟩
            rw [hd, if_neg (by omega), he] at h2
            simpa using h2
          go_wp2
          go_roundw
          case rel =>
            refine ⟨k + 1, by go_num, by omega, H5.out, fun i y hi hy => ?_⟩
            rcases Nat.lt_or_ge i k with g | g
            · exact HI.out.2 i y g hy
            · obtain rfl : i = k := by omega
              rw [HS.out] at hy
              cases hy
              exact HN.out
          case measure => simp [intOf]; omega
    · obtain rfl : k = ds.length := by omega
      have HRO : Hid (RunOk o ds) := ⟨by omega, ouB_iff.1 HOK.out.symm, ⟨fun i d hd => HI.out.2 i d (List.getElem?_eq_some_iff.1 hd).1 hd⟩⟩
      have H2 : Hid (wr.heap[B]? = some (.cells #[.string o.partner, .int .i64 o.number, .string o.text, .int .i64 o.tries, .int .i64 o.due] 25) ∧ wr.ownsRow w.heap.size 2 1 (.slice (some ⟨D, 0, none⟩) ([] : List Int).length 0) ([] : List Int).length (([] : List Int).map (Value.int .i64))) := ⟨(HI.out.1.block _ (Array.getElem?_eq_some_iff.1 H1.out.2.1).1).trans H1.out.2.1, own_belowN H1.out.2.2 HI.out.1⟩
      clear HI H1
      obtain ⟨q0, q1, q2, q3, q4⟩ := box5 H2.out.1
      have HL1 : Hid (LOu wr.heap.size (wr.alloc (.cells #[.string o.partner, .int .i64 o.number, .string o.text, .int .i64 o.tries, .int .i64 o.due] 25)) (.slice (some ⟨wr.heap.size, 0, none⟩) 1 1) [o] ∧ (wr.alloc (.cells #[.string o.partner, .int .i64 o.number, .string o.text, .int .i64 o.tries, .int .i64 o.due] 25)).ownsRow w.heap.size 2 1 (.slice (some ⟨D, 0, none⟩) ([] : List Int).length 0) ([] : List Int).length (([] : List Int).map (Value.int .i64)) ∧ Below w.heap.size w (wr.alloc (.cells #[.string o.partner, .int .i64 o.number, .string o.text, .int .i64 o.tries, .int .i64 o.due] 25))) := ⟨lou_one wr o hz, own_belowN H2.out.2 ((Below.refl _ _).alloc (Nat.le_refl _) _), HW.out.trans (((Below.refl _ wr).alloc (Nat.le_refl _) _).mono HW.out.size)⟩
      go_wp2_with fail
      clear q0 q1 q2 q3 q4
      go_loopw [5, 7, 8] (fun lv li i wq => ∃ (k : Nat) (x : OutR) (ls : List OutR) (acc : List Int) (b : Nat), i = .int .i64 (k : Int) ∧ k ≤ ds.length ∧ (∃ A C, lv = .slice A acc.length C) ∧ (∃ A C, li = .slice A ls.length C) ∧ acc.length ≤ k ∧ wq.ownsRow w.heap.size 2 1 lv acc.length (acc.map (Value.int .i64)) ∧ Below w.heap.size w wq ∧ LOu b wq li ls ∧ Rest ls x ∧ runD o ds = acc ++ runD x (ds.drop k)) (fun _ _ i _ => ds.length - (intOf i).toNat)
      case atStart => exact ⟨0, o, [o], [], _, rfl, by omega, ⟨_, _, rfl⟩, ⟨_, _, rfl⟩, by simp, HL1.out.2.1, HL1.out.2.2, HL1.out.1, .inl ⟨rfl, HRO.out.ok⟩, by simp⟩
      case round =>
        clear HL1 H2
        obtain ⟨k, x, ls, acc, b, rfl, hk, ⟨A1, C1, rfl⟩, ⟨A2, C2, rfl⟩, hac, hown, hbel, hL, hre, hru⟩ := hrel
        rename World => wq
        have HI : Hid (wq.ownsRow w.heap.size 2 1 (.slice A1 acc.length C1) acc.length (acc.map (Value.int .i64)) ∧ LOu b wq (.slice A2 ls.length C2) ls ∧ Rest ls x ∧ runD o ds = acc ++ runD x (ds.drop k)) := ⟨hown, hL, hre, hru⟩
        have HBL : Hid (Below w.heap.size w wq) := hbel
        clear hown hL hre hru hbel
        by_cases hlt : k < ds.length
        · have hlt' : (k : Int) < (ds.length : Int) := by omega
          obtain ⟨bb, oo, cap', d, e, hs, z0⟩ := (H0.out.2.2.below HBL.out).at hlt
          simp only [Value.slice.injEq, true_and] at e
          obtain ⟨rfl, rfl⟩ := e
          have HS : Hid (ds[k]? = some d ∧ dayB d = true) := ⟨hs, (HRO.out.ris.at_ k d hs).1⟩
          clear hs
          have HT : Hid (∃ x', Rest (tckO ls d).list x' ∧ (tckO ls d).code = 0 ∧ (tckO ls d).sent.length ≤ 1 ∧ (x'.partner = x.partner ∧ x'.text = x.text) ∧ runD x (ds.drop k) = (if (tckO ls d).sent.length = 0 then [] else [d]) ++ runD x' (ds.drop (k + 1))) := rest_tick HI.out.2.2.1 HS.out.2 HS.out.1
          have QT := outboxTick_specI (.slice A2 ls.length C2) ls d wq HI.out.2.1.row
          obtain ⟨P, hP⟩ : ∃ P, P = tckO ls d := ⟨_, rfl⟩
          rw [← hP] at QT
          have HP : Hid (P = tckO ls d) := hP
          clear hP
          go_wp2_with fail
          refine QT.mono ?_
          rintro e w3 ⟨u, s, l, b1, b2, b3, rfl, _, _, _, hLo, hb3⟩
          clear QT
          obtain ⟨a1, c1, a2, c2, a3, c3, hu, hs, hl3⟩ := hLo.row.val
          subst hu hs hl3
          have HZ : Hid (P.code = 0) := by show P.code = 0; rw [HP.out]; obtain ⟨_, _, h, _⟩ := HT.out; exact h
          rw [HZ.out]
          have H3 : Hid (LOu b1 w3 (.slice a1 P.list.length c1) P.list ∧ w3.ownsRow w.heap.size 2 1 (.slice A1 acc.length C1) acc.length (acc.map (Value.int .i64)) ∧ Below w.heap.size w w3) := ⟨hLo.li, own_belowN HI.out.1 hb3, HBL.out.trans (hb3.mono HBL.out.size)⟩
          clear hLo hb3 z0
          go_upto_region 14 with fail
          obtain ⟨W4, hW4⟩ : ∃ W4, w3.alloc (.cells #[.slice a1 P.list.length c1, .slice a2 P.sent.length c2, .slice a3 P.lost.length c3, .int .i64 0] 30) = W4 := ⟨_, rfl⟩
          obtain ⟨X, hX⟩ : ∃ X, X = w3.heap.size := ⟨_, rfl⟩
          have hb4 : Below w3.heap.size w3 W4 := by rw [← hW4]; exact (Below.refl _ _).alloc (Nat.le_refl _) _
          have hx4 : W4.heap[X]? = some (.cells #[.slice a1 P.list.length c1, .slice a2 P.sent.length c2, .slice a3 P.lost.length c3, .int .i64 0] 30) := by rw [← hW4, hX]; exact World.alloc_heap_new _ _
          try rw [hW4]
          try rw [← hX]
          have H4 : Hid (LOu b1 W4 (.slice a1 P.list.length c1) P.list ∧ W4.ownsRow w.heap.size 2 1 (.slice A1 acc.length C1) acc.length (acc.map (Value.int .i64)) ∧ Below w.heap.size w W4) := ⟨H3.out.1.below hb4, own_belowN H3.out.2.1 hb4, H3.out.2.2.trans (hb4.mono H3.out.2.2.size)⟩
          obtain ⟨y0, y1, y2, y3⟩ := bx4 hx4
          clear hW4 hX hb4 hx4 H3
          obtain ⟨x', t1, t2, t3, t4, t5⟩ := HT.out
          have HT' : Hid (Rest P.list x' ∧ P.sent.length ≤ 1 ∧ runD x (ds.drop k) = (if P.sent.length = 0 then [] else [d]) ++ runD x' (ds.drop (k + 1))) := by show _ ∧ _ ∧ _; rw [HP.out]; exact ⟨t1, t3, t5⟩
          clear t1 t2 t3 t4 t5 HT HP
          have hgw := H4.out.2.2.size
          by_cases hse : 0 < P.sent.length
          · have hse' : (0 : Int) < (P.sent.length : Int) := by omega
            obtain ⟨bb', oo', cap', d', e, hs, z0⟩ := (H0.out.2.2.below H4.out.2.2).at hlt
            simp only [Value.slice.injEq, Option.some.injEq, Addr.mk.injEq, true_and, and_true] at e
            obtain ⟨⟨rfl, rfl⟩, rfl⟩ := e
            rw [HS.out.1] at hs
            cases hs
            go_upto_region 12 with (first | (at_builtin; refine wpList_appN (z := d) (zs := acc) (base := w.heap.size) rfl _ _ rfl rfl rfl (H4.out.2.1.alloc _) (cell_newN _ _) (by omega) (by simp only [World.size_alloc]; omega) ?_; rintro v6 w6 hown6 hgrow6 ⟨A6, C6, rfl⟩))
            have hL6 : LOu b1 w6 (.slice a1 P.list.length c1) P.list := lou_grown (H4.out.1.below ((Below.refl _ _).alloc (Nat.le_refl _) _)) (own_belowN H4.out.2.1 ((Below.refl _ _).alloc (Nat.le_refl _) _)) hgrow6
            have hb6 : Below w.heap.size w w6 := by
              refine ⟨hgrow6.os.trans H4.out.2.2.os, hgrow6.tape.trans H4.out.2.2.tape, hgrow6.output.trans H4.out.2.2.output, Nat.le_trans hgw (Nat.le_trans (by simp) hgrow6.size), fun q hq => ?_⟩
              rw [hgrow6.block q (by simp only [World.size_alloc]; omega) (fun e => by have := (H4.out.2.1.lt q e.symm).1; omega), ((Below.refl W4.heap.size W4).alloc (Nat.le_refl _) _).block q (by omega)]
              exact H4.out.2.2.block q hq
            have H6 : Hid (w6.ownsRow w.heap.size 2 1 (.slice A6 (acc.length + 1) C6) (acc ++ [d]).length ((acc ++ [d]).map (Value.int .i64)) ∧ LOu b1 w6 (.slice a1 P.list.length c1) P.list ∧ Below w.heap.size w w6) := ⟨hown6, hL6, hb6⟩
            clear hown6 hgrow6 hL6 hb6
            go_wp2
            go_roundw
            case rel =>
              refine ⟨k + 1, x', P.list, acc ++ [d], b1, by go_num, by omega, ⟨A6, C6, by simp⟩, ⟨_, _, rfl⟩, by simp; omega, H6.out.1, H6.out.2.2, H6.out.2.1, HT'.out.1, ?_⟩
              rw [HI.out.2.2.2, HT'.out.2.2, if_neg (by omega)]
              simp
            case measure => simp [intOf]; omega
          · have hse' : ¬ (0 : Int) < (P.sent.length : Int) := by omega
            go_wp2
            go_roundw
            case rel =>
              refine ⟨k + 1, x', P.list, acc, b1, by go_num, by omega, ⟨_, _, rfl⟩, ⟨_, _, rfl⟩, by omega, H4.out.2.1, H4.out.2.2, H4.out.1, HT'.out.1, ?_⟩
              rw [HI.out.2.2.2, HT'.out.2.2, if_pos (by omega)]
              simp
            case measure => simp [intOf]; omega

        · obtain rfl : k = ds.length := by omega
          go_wp2
          go_ret
          obtain ⟨bq, hbq, hLq⟩ := LN.of_owns HI.out.1 (by omega)
          refine ⟨_, rfl, ?_, HBL.out⟩
          have e : runO o ds = acc := by
            rw [runO_yes HRO.out, HI.out.2.2.2, List.drop_length]
            simp [runD]
          rw [e]
          exact hLq.row


end Go.Proofs.Ytiakkpglnijapaa
