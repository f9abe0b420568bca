/- Texts of ours put together: IxDa, PiF. -/
import Derived.Test.YtcdebinldmblkaaGreatDoorG08
import Derived.Test.YtcdebinldmblkaaGreatDoorG17
import Derived.Test.YtcdebinldmblkaaGreatDoorG15
namespace Go.Proofs.YtcdebinldmblkaaGreatDoor
open Go.ChangeShapes Go.WideShapes Go.ChangeAt Go.RowKit
theorem row2s (w : World) (t s : ByteArray) (hz : t.size ≤ 9223372036854775807) (hs : s.size ≤ 9223372036854775807) : RowS (w.alloc (.cells #[.string t, .string s] 9)) (.slice (some ⟨w.heap.size, 0, none⟩) 2 2) [t, s] := by
  refine ⟨⟨_, _, rfl, fun _ => ⟨w.heap.size, 0, rfl, fun i x hi => ?_⟩⟩, by simp, fun i x hi => ?_⟩
  · rcases i with _ | _ | i
    · simp at hi
      subst hi
      simp [go_sem]
    · simp at hi
      subst hi
      simp [go_sem]
    · simp at hi
  · rcases i with _ | _ | i
    · simp at hi
      subst hi
      exact hz
    · simp at hi
      subst hi
      exact hs
    · simp at hi
theorem row3s (w : World) (t s r : ByteArray) (hz : t.size ≤ 9223372036854775807) (hs : s.size ≤ 9223372036854775807) (hr : r.size ≤ 9223372036854775807) : RowS (w.alloc (.cells #[.string t, .string s, .string r] 9)) (.slice (some ⟨w.heap.size, 0, none⟩) 3 3) [t, s, r] := by
  refine ⟨⟨_, _, rfl, fun _ => ⟨w.heap.size, 0, rfl, fun i x hi => ?_⟩⟩, by simp, fun i x hi => ?_⟩
  · rcases i with _ | _ | _ | i
    · simp at hi
      subst hi
      simp [go_sem]
    · simp at hi
      subst hi
      simp [go_sem]
    · simp at hi
      subst hi
      simp [go_sem]
    · simp at hi
  · rcases i with _ | _ | _ | i
    · simp at hi
      subst hi
      exact hz
    · simp at hi
      subst hi
      exact hs
    · simp at hi
      subst hi
      exact hr
    · simp at hi
theorem nDig_le : ∀ (f u : Nat), u < 10 ^ (f + 1) → Lib.nDigits u ≤ f + 1
  | 0, u, h => by rw [Lib.nDigits_small (by simpa using h)]; omega
  | f + 1, u, h => by
    by_cases q : u < 10
    · rw [Lib.nDigits_small q]; omega
    · rw [Lib.nDigits_big q]
      have := nDig_le f (u / 10) (by rw [Nat.pow_succ] at h; exact Nat.div_lt_of_lt_mul (by omega))
      omega
theorem decS_size (n : Int) (h0 : 0 ≤ n) (h1 : n ≤ 1000000) : (decS n).size ≤ 8 := by
  have hs : (decS n).size = (Lib.itoa n).length := by
    show (decS n).data.size = _
    simp [decS]
  rw [hs]
  unfold Lib.itoa
  rw [if_neg (by omega), Lib.decDigits_length]
  have := nDig_le 6 n.toNat (by omega)
  omega
end Go.Proofs.YtcdebinldmblkaaGreatDoor
namespace Go.Proofs.YtcdebinldmblkaaGreatDoor
open Go.ChangeShapes Go.WideShapes Go.ChangeAt Go.RowKit
/-- What the variables hold that papers are told and read by. -/
structure VarsAt (w : World) : Prop where
  tab : TabOk w
  tabs : TablesAt w
  errs : ErrsAt w
theorem VarsAt.below {w w' : World} (h : VarsAt w) (hb : Below w.heap.size w w') : VarsAt w' := ⟨h.tab.below hb, h.tabs.below hb rfl, h.errs.below hb⟩
theorem pbox {W : World} {B t : Nat} {a0 a1 a2 a3 a4 a5 : Value} (h : W.heap[B]? = some (.cells #[a0, a1, a2, a3, a4, a5] t)) : W.cell? ⟨B, 0, none⟩ = some a0 ∧ W.cell? ⟨B, 1, none⟩ = some a1 ∧ W.cell? ⟨B, 2, none⟩ = some a2 ∧ W.cell? ⟨B, 3, none⟩ = some a3 ∧ W.cell? ⟨B, 4, none⟩ = some a4 ∧ W.cell? ⟨B, 5, none⟩ = some a5 := by
  simp [World.cell?, h]
theorem sbox {W : World} {B t : Nat} {a0 a1 : Value} (h : W.heap[B]? = some (.cells #[a0, a1] t)) : W.cell? ⟨B, 0, none⟩ = some a0 ∧ W.cell? ⟨B, 1, none⟩ = some a1 ∧ ∀ o, W.frozen? ⟨B, o, none⟩ = false := by
  exact ⟨by simp [World.cell?, h], by simp [World.cell?, h], fun o => by simp [World.frozen?, h]⟩
theorem two_old (w : World) (a b : Obj) : ((w.alloc a).alloc b).heap[w.heap.size]? = some a := by
  have e : ((w.alloc a).alloc b).heap = (w.heap.push a).push b := rfl
  rw [e, Array.getElem?_push, Array.size_push, if_neg (by omega), Array.getElem?_push, if_pos rfl]
theorem docW_yes {p : Pap} (h : hasO p.kind = true) : docW p = [p.ref, p.other, decS p.day] := by unfold docW; rw [if_pos h]
theorem docW_no {p : Pap} (h : hasO p.kind = false) : docW p = [p.ref, decS p.day] := by unfold docW; rw [if_neg (by rw [h]; simp)]
set_option maxRecDepth 20000 in
set_option maxHeartbeats 8000000 in
theorem docOf_any (p : Pap) (un ul : Value) (w : World) (hk : 1 ≤ p.kind ∧ p.kind ≤ 7) (hi : i64B p.day) (hz : p.ref.size ≤ 1048576 ∧ p.other.size ≤ 1048576) (hV : VarsAt w) :
    Calls Tryz.prog 41 #[.agg #[.int .i64 p.kind, .string p.ref, .string p.other, .int .i64 p.day, un, ul]] w fun e w' => ∃ u vals, e = .returned (.agg #[.string sDOC, u]) ∧ OwnV w.heap.size w' u vals ((docW p).map fun t => [t]) ∧ Below w.heap.size w w' := by
  obtain ⟨z1, z2⟩ := hz
  have z0 := (decS_long p.day hi.1 hi.2).2
  obtain ⟨W0, hW0⟩ : ∃ W0, (w.alloc (.cells #[.int .i64 p.kind, .string p.ref, .string p.other, .int .i64 p.day, un, ul] 31)).alloc (.cells #[.string ⟨#[]⟩, .slice none 0 0] 46) = W0 := ⟨_, rfl⟩
  have hb0 : Below w.heap.size w W0 := by rw [← hW0]; exact ((Below.refl _ _).alloc (Nat.le_refl _) _).alloc (by simp) _
  have x0 : W0.heap[w.heap.size]? = some (.cells #[.int .i64 p.kind, .string p.ref, .string p.other, .int .i64 p.day, un, ul] 31) := by rw [← hW0]; exact two_old _ _ _
  have x1 : W0.heap[w.heap.size + 1]? = some (.cells #[.string ⟨#[]⟩, .slice none 0 0] 46) := by rw [← hW0]; exact two_new _ _ _
  have s0 : W0.heap.size = w.heap.size + 2 := by rw [← hW0]; simp
  have HX : Hid (W0.heap.size = w.heap.size + 2 ∧ Below w.heap.size w W0 ∧ ∀ W, Below W0.heap.size W0 W → (W.cell? ⟨w.heap.size, 0, none⟩ = some (.int .i64 p.kind) ∧ W.cell? ⟨w.heap.size, 1, none⟩ = some (.string p.ref) ∧ W.cell? ⟨w.heap.size, 2, none⟩ = some (.string p.other) ∧ W.cell? ⟨w.heap.size, 3, none⟩ = some (.int .i64 p.day) ∧ W.cell? ⟨w.heap.size, 4, none⟩ = some (un) ∧ W.cell? ⟨w.heap.size, 5, none⟩ = some (ul)) ∧ W.cell? ⟨w.heap.size + 1, 0, none⟩ = some (.string ⟨#[]⟩) ∧ W.cell? ⟨w.heap.size + 1, 1, none⟩ = some (.slice none 0 0) ∧ ∀ o, W.frozen? ⟨w.heap.size + 1, o, none⟩ = false) := ⟨s0, hb0, fun W hW => ⟨pbox ((hW.block _ (by omega)).trans x0), sbox ((hW.block _ (by omega)).trans x1)⟩⟩
  have HV : Hid (VarsAt W0) := hV.below hb0
  obtain ⟨⟨c0, c1, c2, c3, c4, c5⟩, _⟩ := HX.out.2.2 W0 (Below.refl _ _)
  go_enter Tryz.func41, Tryz.ntmps41
  go_upto_region 1 with fail
  try rw [hW0]
  clear hW0 x0 x1 hb0 s0 hV
  go_wp2_with fail
  refine (digitsOf_any p.day _ hi HV.out.tab).mono ?_
  rintro e w1 ⟨rfl, hb1⟩
  have H1 : Hid (Below W0.heap.size W0 w1) := hb1
  clear hb1 c0 c1 c2 c3 c4 c5
  obtain ⟨⟨c0, c1, c2, c3, c4, c5⟩, _⟩ := HX.out.2.2 w1 H1.out
  obtain ⟨o, ho⟩ : ∃ o, o = hasO p.kind := ⟨_, rfl⟩
  have Q1 := hasOther_any p.kind w1 hk (HV.out.below H1.out).tabs
  rw [← ho] at Q1
  go_wp2_with fail
  refine Q1.mono ?_
  rintro e w1 ⟨rfl, rfl⟩
  clear Q1
  cases o with
  | true =>
    have HD : Hid (docW p = [p.ref, p.other, decS p.day]) := docW_yes ho.symm
    clear ho
    have sR := row3s w1 p.ref p.other (decS p.day) (by omega) (by omega) (by omega)
    have bS : Below w1.heap.size w1 (w1.alloc (.cells #[.string p.ref, .string p.other, .string (decS p.day)] 9)) := (Below.refl _ _).alloc (Nat.le_refl _) _
    have HS : Hid (RowS (w1.alloc (.cells #[.string p.ref, .string p.other, .string (decS p.day)] 9)) (.slice (some ⟨w1.heap.size, 0, none⟩) 3 3) [p.ref, p.other, decS p.day] ∧ Below W0.heap.size W0 (w1.alloc (.cells #[.string p.ref, .string p.other, .string (decS p.day)] 9))) := ⟨sR, H1.out.trans (bS.mono H1.out.size)⟩
    clear sR bS
    go_wp2_with fail
    refine (segmentBy_any ⟨#[68, 79, 67]⟩ _ [p.ref, p.other, decS p.day] _ HS.out.1 (by simp) (by intro t ht; simp only [List.mem_cons, List.not_mem_nil, or_false] at ht; rcases ht with rfl | rfl | rfl <;> omega)).mono ?_
    rintro e w3 ⟨u, vals, rfl, hOw, hb3⟩
    obtain ⟨A3, N3, C3, hu3⟩ := row_slice hOw.row
    subst hu3
    have b3 : Below W0.heap.size W0 w3 := HS.out.2.trans (hb3.mono HS.out.2.size)
    obtain ⟨_, r0, r1, rz⟩ := HX.out.2.2 w3 b3
    have z3 := HS.out.2.size
    have HO : Hid (OwnV (w.heap.size + 2) w3 (.slice A3 N3 C3) vals ([p.ref, p.other, decS p.day].map fun t => [t]) ∧ Below w.heap.size w w3) := ⟨hOw.mono (by rw [HX.out.1] at z3; omega), HX.out.2.1.trans (b3.mono HX.out.2.1.size)⟩
    clear hOw hb3 b3
    go_wp2
    exact bodyPost_ret (v := .agg #[.string ⟨#[68, 79, 67]⟩, .slice A3 N3 C3]) (by simp [results, Tryz.results41, go_sem, r0, r1]) rfl ⟨_, vals, rfl, by rw [HD.out]; exact ((HO.out.1.set (by omega) _ _).set (by omega) _ _).mono (by omega), (HO.out.2.setCell (show w.heap.size ≤ w.heap.size + 1 by omega) _).setCell (show w.heap.size ≤ w.heap.size + 1 by omega) _⟩
  | false =>
    have HD : Hid (docW p = [p.ref, decS p.day]) := docW_no ho.symm
    clear ho
    have sR := row2s w1 p.ref (decS p.day) (by omega) (by omega)
    have bS : Below w1.heap.size w1 (w1.alloc (.cells #[.string p.ref, .string (decS p.day)] 9)) := (Below.refl _ _).alloc (Nat.le_refl _) _
    have HS : Hid (RowS (w1.alloc (.cells #[.string p.ref, .string (decS p.day)] 9)) (.slice (some ⟨w1.heap.size, 0, none⟩) 2 2) [p.ref, decS p.day] ∧ Below W0.heap.size W0 (w1.alloc (.cells #[.string p.ref, .string (decS p.day)] 9))) := ⟨sR, H1.out.trans (bS.mono H1.out.size)⟩
    clear sR bS
    go_wp2_with fail
    refine (segmentBy_any ⟨#[68, 79, 67]⟩ _ [p.ref, decS p.day] _ HS.out.1 (by simp) (by intro t ht; simp only [List.mem_cons, List.not_mem_nil, or_false] at ht; rcases ht with rfl | rfl <;> omega)).mono ?_
    rintro e w3 ⟨u, vals, rfl, hOw, hb3⟩
    obtain ⟨A3, N3, C3, hu3⟩ := row_slice hOw.row
    subst hu3
    have b3 : Below W0.heap.size W0 w3 := HS.out.2.trans (hb3.mono HS.out.2.size)
    obtain ⟨_, r0, r1, rz⟩ := HX.out.2.2 w3 b3
    have z3 := HS.out.2.size
    have HO : Hid (OwnV (w.heap.size + 2) w3 (.slice A3 N3 C3) vals ([p.ref, decS p.day].map fun t => [t]) ∧ Below w.heap.size w w3) := ⟨hOw.mono (by rw [HX.out.1] at z3; omega), HX.out.2.1.trans (b3.mono HX.out.2.1.size)⟩
    clear hOw hb3 b3
    go_wp2
    exact bodyPost_ret (v := .agg #[.string ⟨#[68, 79, 67]⟩, .slice A3 N3 C3]) (by simp [results, Tryz.results41, go_sem, r0, r1]) rfl ⟨_, vals, rfl, by rw [HD.out]; exact ((HO.out.1.set (by omega) _ _).set (by omega) _ _).mono (by omega), (HO.out.2.setCell (show w.heap.size ≤ w.heap.size + 1 by omega) _).setCell (show w.heap.size ≤ w.heap.size + 1 by omega) _⟩
end Go.Proofs.YtcdebinldmblkaaGreatDoor
