/- Contracts of the program's RulesRight and of what it calls. -/
import Derived.Test.YtgmbphgkalhceaaRuP
import Derived.Shelf.RegionOpen
import Derived.Deep.QuietTactic
import Derived.Deep.Cut
import Derived.Deep.CutRange
import Derived.BigQuiet
import Derived.BigRegion
import Derived.Deep.RegionHeld3
import Derived.Shelf.SlSortCmp.QuietGrown
namespace Go.Proofs.Ytgmbphgkalhceaa
open Go.ChangeShapes Go.WideShapes Go.ChangeAt Go.RowKit
open Go.Lib (compareBytes)
open Go.Sort
theorem box3R {W : World} {b t : Nat} {x0 x1 x2 : Value} (h : W.heap[b]? = some (.cells #[x0, x1, x2] t)) : W.cell? ⟨b, 0, none⟩ = some x0 ∧ W.cell? ⟨b, 1, none⟩ = some x1 ∧ W.cell? ⟨b, 2, none⟩ = some x2 := by
  refine ⟨?_, ?_, ?_⟩ <;> simp [World.cell?, h]
theorem ret_noR {p : Prop} [Decidable p] (h : ¬ p) : Ending.returned (.bool (decide p)) = .returned (.bool false) := by rw [decide_eq_false h]
theorem ret_yesR {p : Prop} [Decidable p] (h : p) : Ending.returned (.bool (decide p)) = .returned (.bool true) := by rw [decide_eq_true h]
/-- New blocks and draws alone. -/
def GrwR (w w' : World) : Prop := ∃ q os', w' = grow (w.drewN q) os'
theorem GrwR.one (w : World) (o : Obj) : GrwR w (w.alloc o) := ⟨0, #[o], rfl⟩
theorem GrwR.two (w : World) (o p : Obj) : GrwR w ((w.alloc o).alloc p) := ⟨0, #[o, p], rfl⟩
theorem GrwR.below {w w' : World} (h : GrwR w w') : Below w.heap.size w w' := by
  obtain ⟨q, os, rfl⟩ := h
  refine ⟨rfl, rfl, rfl, by simp [grow], fun i hi => ?_⟩
  have e : (grow (w.drewN q) os).heap = w.heap ++ os := rfl
  rw [e, Array.getElem?_append_left hi]
set_option maxHeartbeats 4000000 in
theorem ruRight_any (l : RulR) (w : World) : Calls Try.prog 13 #[.agg #[.string l.item, .int .i64 l.low, .int .i64 l.up]] w fun e w' => e = .returned (.bool (ruB l)) ∧ GrwR w w' := by
  obtain ⟨r, hr⟩ : ∃ r, r = ruB l := ⟨_, rfl⟩
  have HR : Hid (r = ruB l) := hr
  rw [← hr]
  clear hr
  obtain ⟨item, low, up⟩ := l
  dsimp only
  have HB : Hid (∀ o, GrwR w (w.alloc o)) := fun o => .one w o
  have Q0 := isName_any item
  cases h0 : nameB item
  case false =>
    obtain rfl : r = false := by rw [HR.out]; exact ruB_no fun h => by have := h.n; dsimp only at this; rw [h0] at this; cases this
    rw [h0] at Q0
    go_enter Try.func13, Try.ntmps13
    go_wp2_with (go_at_call 17; refine (Q0 _).mono ?_; rintro e w' ⟨rfl, rfl⟩)
    go_ret
    exact ⟨by first | rfl, HB.out _⟩
  rw [h0] at Q0
  by_cases h1 : 0 ≤ low
  case neg =>
    obtain rfl : r = false := by rw [HR.out]; exact ruB_no fun h => h1 h.l0
    go_enter Try.func13, Try.ntmps13
    go_wp2_with (go_at_call 17; refine (Q0 _).mono ?_; rintro e w' ⟨rfl, rfl⟩)
    go_ret
    exact ⟨by first | rfl, HB.out _⟩
  by_cases h2 : low ≤ up
  case neg =>
    obtain rfl : r = false := by rw [HR.out]; exact ruB_no fun h => h2 h.lu
    go_enter Try.func13, Try.ntmps13
    go_wp2_with (go_at_call 17; refine (Q0 _).mono ?_; rintro e w' ⟨rfl, rfl⟩)
    go_ret
    exact ⟨by first | rfl, HB.out _⟩
  by_cases h3 : up ≤ 1000000
  case neg =>
    obtain rfl : r = false := by rw [HR.out]; exact ruB_no fun h => h3 h.u1
    go_enter Try.func13, Try.ntmps13
    go_wp2_with (go_at_call 17; refine (Q0 _).mono ?_; rintro e w' ⟨rfl, rfl⟩)
    go_ret
    exact ⟨by first | rfl | exact ret_noR (p := up ≤ 1000000) (by omega) | exact ret_yesR (p := up ≤ 1000000) (by omega), HB.out _⟩
  obtain rfl : r = true := by rw [HR.out]; exact ruB_yes ⟨h0, h1, h2, h3⟩
  go_enter Try.func13, Try.ntmps13
  go_wp2_with (go_at_call 17; refine (Q0 _).mono ?_; rintro e w' ⟨rfl, rfl⟩)
  go_ret
  exact ⟨by first | rfl | exact ret_noR (p := up ≤ 1000000) (by omega) | exact ret_yesR (p := up ≤ 1000000) (by omega), HB.out _⟩
theorem fl_twoR (w : World) (a b : Obj) : ((w.alloc a).alloc b).heap[w.heap.size]? = some a ∧ ((w.alloc a).alloc b).heap[w.heap.size + 1]? = some b := by
  have e : ((w.alloc a).alloc b).heap = (w.heap.push a).push b := rfl
  rw [e]
  simp only [Array.getElem?_push, Array.size_push]
  refine ⟨?_, ?_⟩
  · rw [if_neg (by omega), if_pos trivial]
  · rw [if_pos trivial]
theorem cell_newC (W : World) (c : Array Value) (t i : Nat) (x : Value) (h : c[i]? = some x) : (W.alloc (.cells c t)).cell? ⟨W.heap.size, i, none⟩ = some x := by
  have e := World.alloc_heap_new W (.cells c t)
  unfold World.cell?
  rw [e]
  exact h
set_option maxRecDepth 100000 in
theorem compareString_anyR (a b : ByteArray) (w : World) : Calls Try.prog 19 #[.string a, .string b] w fun e w' => e = .returned (.int .i64 (compareBytes a.data.toList b.data.toList)) ∧ w' = w := by
  go_enter Try.func19, Try.ntmps19
  go_wp2
  rw [run_callFunc_extern Try.func20 (by kernel_rfl) (by kernel_rfl) (by kernel_rfl) (e := Extern.BytealgCompare.compare) (by kernel_rfl), Lib.run_compareString]
  simp only [Result.andThen]
  rw [Oper.upon_value]
  go_wp2
  go_ret
  exact ⟨rfl, rfl⟩
theorem compare_anyR (a b : ByteArray) (w : World) : Calls Try.prog 18 #[.string a, .string b] w fun e w' => e = .returned (.int .i64 (compareBytes a.data.toList b.data.toList)) ∧ w' = w := by
  go_enter Try.func18, Try.ntmps18
  go_wp2_with (go_at_call 19; refine (compareString_anyR _ _ _).mono ?_; rintro e w' ⟨rfl, rfl⟩)
  go_ret
  exact ⟨rfl, rfl⟩
set_option maxHeartbeats 2000000 in
theorem ruCmp_any (a b : RulR) (w : World) : Calls Try.prog 15 #[.agg #[.string a.item, .int .i64 a.low, .int .i64 a.up], .agg #[.string b.item, .int .i64 b.low, .int .i64 b.up]] w fun e w' => e = .returned (.int .i64 (compareBytes a.item.data.toList b.item.data.toList)) ∧ GrwR w w' := by
  obtain ⟨a_item, a_low, a_up⟩ := a
  obtain ⟨b_item, b_low, b_up⟩ := b
  dsimp only
  have HB : Hid (∀ o p, GrwR w ((w.alloc o).alloc p)) := fun o p => .two w o p
  go_enter Try.func15, Try.ntmps15
  go_wp2_with (go_at_call 18; refine (compare_anyR _ _ _).mono ?_; rintro e w' ⟨rfl, rfl⟩)
  go_ret
  exact ⟨rfl, HB.out _ _⟩
set_option maxHeartbeats 4000000 in
theorem all_any (v : Value) (rs : List RulR) (w : World) (h : RowRu w v rs) : Calls Try.prog 12 #[v, .func (.func 13) #[] #[]] w fun e w' => e = .returned (.bool (allR rs)) ∧ Below w.heap.size w w' := by
  have hlen := h.len
  obtain ⟨A, Cp, rfl⟩ := h.val
  have H0 : Hid (RowRu w (.slice A rs.length Cp) rs) := h
  clear h
  go_enter Try.func12, Try.ntmps12
  go_wp2_with fail
  go_loopw [9] (fun i wr => ∃ k : Nat, i = .int .i64 (k : Int) ∧ k ≤ rs.length ∧ Below w.heap.size w wr ∧ ∀ i c, i < k → rs[i]? = some c → ruB c = true) (fun i _ => rs.length - (intOf i).toNat)
  case atStart => exact ⟨0, rfl, by omega, Below.refl _ _, fun i c hi => by omega⟩
  case round =>
    obtain ⟨k, rfl, hk, hb, hok⟩ := hrel
    have HI : Hid (Below w.heap.size w wr ∧ ∀ i c, i < k → rs[i]? = some c → ruB c = true) := ⟨hb, hok⟩
    clear hok hb
    by_cases hlt : k < rs.length
    · have hlt' : (k : Int) < (rs.length : Int) := by omega
      obtain ⟨b, o, cap', c, e, hs, hat, hz⟩ := (H0.out.below HI.out.1).at hlt
      simp only [Value.slice.injEq, true_and] at e
      obtain ⟨rfl, rfl⟩ := e
      have HS : Hid (rs[k]? = some c) := hs
      obtain ⟨q0, q1, q2⟩ := hat
      clear hs hz
      obtain ⟨x, hx⟩ : ∃ x, x = ruB c := ⟨_, rfl⟩
      have Q1 := ruRight_any c
      rw [← hx] at Q1
      have HX : Hid (x = ruB c) := hx
      clear hx
      have HB : Hid (∀ o W, GrwR (wr.alloc o) W → Below w.heap.size w W) := fun o W hW => HI.out.1.trans (((Below.refl _ wr).alloc (Nat.le_refl _) o).trans (hW.below.mono (by simp)) |>.mono HI.out.1.size)
      go_wp2_with fail
      refine (Q1 _).mono ?_
      rintro e w2 ⟨rfl, hg⟩
      have H2 : Hid (Below w.heap.size w w2) := HB.out _ _ hg
      clear hg HB
      cases x with
      | false =>
        have HN : Hid (allR rs = false) := allR_at HS.out HX.out.symm
        go_wp2
        go_ret
        exact ⟨by rw [HN.out]; rfl, H2.out⟩
      | true =>
        go_wp2
        go_roundw
        case rel =>
          refine ⟨k + 1, by go_num, by omega, H2.out, fun i y hi hy => ?_⟩
          rcases Nat.lt_or_ge i k with g | g
          · exact HI.out.2 i y g hy
          · obtain rfl : i = k := by omega
            rw [HS.out] at hy
            cases hy
            exact HX.out.symm
        case measure => simp [intOf]; omega
    · obtain rfl : k = rs.length := by omega
      have HN : Hid (allR rs = true ∧ Below w.heap.size w wr) := ⟨allR_yes HI.out.2, HI.out.1⟩
      go_wp2
      go_ret
      exact ⟨by rw [HN.out.1]; rfl, HN.out.2⟩
set_option maxHeartbeats 8000000 in
theorem rises_any (v : Value) (rs : List RulR) (w : World) (h : RowRu w v rs) : Calls Try.prog 14 #[v, .func (.func 15) #[] #[]] w fun e w' => e = .returned (.bool (risB rs)) ∧ Below w.heap.size w w' := by
  have hlen := h.len
  obtain ⟨A, Cp, rfl⟩ := h.val
  have H0 : Hid (RowRu w (.slice A rs.length Cp) rs) := h
  clear h
  have mixed : Try.prog.follows .mixedOrders = true := by kernel_rfl
  go_enter Try.func14, Try.ntmps14
  go_wp2_with fail
  go_loopw [5] (fun i wr => ∃ k : Nat, i = .int .i64 ((k : Int) + 1) ∧ (k + 1 ≤ rs.length ∨ k = 0) ∧ Below w.heap.size w wr ∧ ∀ (i : Nat) (a b : RulR), i < k → rs[i]? = some a → rs[i + 1]? = some b → befR a b = true) (fun i _ => rs.length - (intOf i).toNat)
  case atStart => exact ⟨0, rfl, .inr rfl, Below.refl _ _, fun i a b hi => by omega⟩
  case round =>
    obtain ⟨k, rfl, hk, hb, hok⟩ := hrel
    have HI : Hid (Below w.heap.size w wr ∧ ∀ (i : Nat) (a b : RulR), i < k → rs[i]? = some a → rs[i + 1]? = some b → befR a b = true) := ⟨hb, hok⟩
    clear hok hb
    by_cases hlt : k + 1 < rs.length
    · have hlt' : (k : Int) + 1 < (rs.length : Int) := by omega
      obtain ⟨b, o, cap', c, e, hs, hat, hz⟩ := (H0.out.below HI.out.1).at hlt
      simp only [Value.slice.injEq, true_and] at e
      obtain ⟨rfl, rfl⟩ := e
      obtain ⟨b2, o2, cap2, d, e, hs2, hat2, hz2⟩ := (H0.out.below HI.out.1).at (k := k) (by omega)
      simp only [Value.slice.injEq, Option.some.injEq, Addr.mk.injEq, true_and, and_true] at e
      obtain ⟨⟨rfl, rfl⟩, rfl⟩ := e
      have HS : Hid (rs[k]? = some d ∧ rs[k + 1]? = some c) := ⟨hs2, hs⟩
      obtain ⟨q0, q1, q2⟩ := hat
      obtain ⟨p0, p1, p2⟩ := hat2
      clear hs hz hs2 hz2 hk
      have l0 := cell_lt q0
      have m0 := cell_lt p0
      have f0 := cell_grown l0 q0
      have f1 := cell_grown l0 q1
      have f2 := cell_grown l0 q2
      have g0 := cell_grown m0 p0
      have g1 := cell_grown m0 p1
      have g2 := cell_grown m0 p2
      clear q0 q1 q2 p0 p1 p2
      obtain ⟨z, hz⟩ : ∃ z, z = compareBytes d.item.data.toList c.item.data.toList := ⟨_, rfl⟩
      have Q1 := ruCmp_any d c
      rw [← hz] at Q1
      have HZ : Hid (z < 0 ↔ befR d c = true) := by show _ ↔ _; rw [hz, cb_neg]; unfold befR; rw [ByteArray.toList_eq, ByteArray.toList_eq]
      clear hz
      have i0 : (0 : Int) ≤ (k : Int) := by omega
      have i2 : (k : Int) < (rs.length : Int) := by omega
      have i3 : IntKind.i64.wrap ((k : Int) + 1 - 1) = (k : Int) := by rw [show (k : Int) + 1 - 1 = (k : Int) by omega]; simp [IntKind.wrap, IntKind.bits, IntKind.signed]; omega
      have i4 : IntKind.i64.wrap (k : Int) = (k : Int) := by simp [IntKind.wrap, IntKind.bits, IntKind.signed]; omega
      go_upto_region 4 with fail
      obtain ⟨bad, hbad⟩ : ∃ bad : Bool, bad = decide (0 ≤ z) := ⟨_, rfl⟩
      have HD : Hid (bad = !befR d c) := by
        show _ = _
        rw [hbad]
        cases e : befR d c with
        | true => have := HZ.out.2 e; simp; omega
        | false =>
          have : ¬ z < 0 := fun h => by have := HZ.out.1 h; rw [e] at this; cases this
          simp; omega
      go_cut [23] from 12 to 22 (fun t wx => t = .bool bad ∧ Below w.heap.size w wx)
      case first =>
        refine wp_region_quiet_grown mixed (by kernel_rfl) ?_
        repeat (go_big_quiet_step (first | (go_at_call 15; refine Calls.grown_of (Q1 _))))
        refine wpQuiet_nil ?_
        intro _ hw'
        obtain ⟨⟨nq, osq⟩, hw''⟩ := hw'
        subst hw''
        go_wp2_with fail
        go_meet
        exact ⟨by rw [hbad], HI.out.1.trans ((GrwR.below ⟨nq, osq, rfl⟩).mono HI.out.1.size)⟩
      case rest =>
        obtain ⟨rfl, hb5⟩ := hcut
        rename World => w5
        have H5 : Hid (Below w.heap.size w w5) := hb5
        clear hb5 hbad
        cases bad with
        | true =>
          have HN : Hid (risB rs = false) := risB_no fun h => by
            have h1 := h k d c HS.out.1 HS.out.2
            have h2 := HD.out
            rw [h1] at h2
            cases h2
          go_wp2
          go_ret
          exact ⟨by rw [HN.out]; rfl, H5.out⟩
        | false =>
          have HN : Hid (befR d c = true) := by
            show _ = _
            cases e : befR d c with
            | true => rfl
            | false => have h2 := HD.out; rw [e] at h2; cases h2
          go_wp2
          go_roundw
          case rel =>
            refine ⟨k + 1, by go_num, by omega, H5.out, fun i a b hi ha hb => ?_⟩
            rcases Nat.lt_or_ge i k with g | g
            · exact HI.out.2 i a b g ha hb
            · obtain rfl : i = k := by omega
              rw [HS.out.1] at ha
              rw [HS.out.2] at hb
              cases ha
              cases hb
              exact HN.out
          case measure => simp [intOf]; omega
    · have hlt' : ¬ (k : Int) + 1 < (rs.length : Int) := by omega
      have HN : Hid (risB rs = true ∧ Below w.heap.size w wr) := ⟨risB_yes fun i a b ha hb => by
        have h1 := (List.getElem?_eq_some_iff.1 hb).1
        exact HI.out.2 i a b (by omega) ha hb, HI.out.1⟩
      clear hk
      go_wp2
      go_ret
      exact ⟨by rw [HN.out.1]; rfl, HN.out.2⟩
set_option maxHeartbeats 4000000 in
theorem rulesRight_impl (v : Value) (rs : List RulR) (w : World) (h : RowRu w v rs) : Calls Try.prog 7 #[v] w fun e w' => e = .returned (.bool (rusB rs)) ∧ Below w.heap.size w w' := by
  have hlen := h.len
  obtain ⟨A, Cp, rfl⟩ := h.val
  have H0 : Hid (RowRu w (.slice A rs.length Cp) rs) := h
  clear h
  have HE : Hid (rusB rs = (decide (rs.length ≤ 20) && (allR rs && risB rs))) := rusB_eq rs
  have Q1 := fun W h => all_any (.slice A rs.length Cp) rs W h
  have Q2 := fun W h => rises_any (.slice A rs.length Cp) rs W h
  obtain ⟨x, hx⟩ : ∃ x, x = allR rs := ⟨_, rfl⟩
  obtain ⟨y, hy⟩ : ∃ y, y = risB rs := ⟨_, rfl⟩
  rw [← hx] at Q1
  rw [← hy] at Q2
  have HX : Hid (rusB rs = (decide (rs.length ≤ 20) && (x && y))) := by rw [hx, hy]; exact HE.out
  clear hx hy HE
  go_enter Try.func7, Try.ntmps7
  by_cases hl : rs.length ≤ 20
  · have hl' : (rs.length : Int) ≤ 20 := by omega
    have HY : Hid (rusB rs = (x && y)) := by show _ = _; rw [HX.out, decide_eq_true hl]; rfl
    go_wp2_with fail
    refine (Q1 _ H0.out).mono ?_
    rintro e w1 ⟨rfl, hb1⟩
    have H1 : Hid (Below w.heap.size w w1) := hb1
    clear hb1
    cases x with
    | false =>
      have HN : Hid (rusB rs = false) := by show _ = _; rw [HY.out]; rfl
      go_wp2
      go_ret
      exact ⟨by rw [HN.out]; rfl, H1.out⟩
    | true =>
      have HN : Hid (rusB rs = y) := by show _ = _; rw [HY.out]; rfl
      go_wp2_with fail
      refine (Q2 _ (H0.out.below H1.out)).mono ?_
      rintro e w2 ⟨rfl, hb2⟩
      have H2 : Hid (Below w.heap.size w w2) := H1.out.trans (hb2.mono H1.out.size)
      clear hb2
      go_wp2
      go_ret
      exact ⟨by rw [HN.out]; rfl, H2.out⟩
  · have hl' : ¬ (rs.length : Int) ≤ 20 := by omega
    have HN : Hid (rusB rs = false) := by show _ = _; rw [HX.out, decide_eq_false hl]; rfl
    go_wp2
    go_ret
    exact ⟨by rw [HN.out]; rfl, Below.refl _ _⟩
end Go.Proofs.Ytgmbphgkalhceaa
