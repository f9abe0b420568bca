/- Texts of ours put together: SuP, SuS, SuI. -/
import Derived.Test.YtgecdmpokahahaaGreatDoorG21
import Derived.Test.YtgecdmpokahahaaGreatDoorG44
import Derived.Test.YtgecdmpokahahaaGreatDoorG45
namespace Go.Proofs.YtgecdmpokahahaaGreatDoor
open Go.ChangeShapes Go.WideShapes Go.ChangeAt Go.RowKit
def qAdd (s : Int) (l : Ln) : Int := wrap64 (s + l.qty)
def qsum (ls : List Ln) : Int := ls.foldl qAdd 0
theorem qsum_next {ls : List Ln} {n : Nat} {l : Ln} (h : ls[n]? = some l) : qsum (ls.take (n + 1)) = wrap64 (qsum (ls.take n) + l.qty) := by
  unfold qsum
  rw [List.take_add_one, h, List.foldl_append]
  rfl
theorem wrap_in (n : Int) : -9223372036854775808 ≤ wrap64 n ∧ wrap64 n ≤ 9223372036854775807 := by unfold wrap64; omega
noncomputable def sumP (p : Pap) : Int := if papB p = true then qsum p.lines else 0
end Go.Proofs.YtgecdmpokahahaaGreatDoor
namespace Go.Proofs.YtgecdmpokahahaaGreatDoor
open Go.ChangeShapes Go.WideShapes Go.ChangeAt Go.RowKit
set_option maxRecDepth 20000 in
set_option maxHeartbeats 16000000 in
theorem paperSum_spec (p : Pap) (un ul : Value) (w : World) (hI : PapI p) (hP : PapR w un ul p) (hB : BdP 1048576 p) :
    Calls Tryz.prog 17 #[.agg #[.int .i64 p.kind, .string p.ref, .string p.other, .int .i64 p.day, un, ul]] w fun e w' => e = .returned (.int .i64 (sumP p)) ∧ Below w.heap.size w w' := by
  obtain ⟨An, Cn, rfl⟩ := hP.ns.val
  obtain ⟨Al, Cl, rfl⟩ := hP.ls.val
  have hl0 := hB.2.2.2.1
  obtain ⟨W0, hW0⟩ : ∃ W0, w.alloc (.cells #[.int .i64 p.kind, .string p.ref, .string p.other, .int .i64 p.day, .slice An p.notes.length Cn, .slice Al p.lines.length Cl] 30) = W0 := ⟨_, rfl⟩
  have hb0 : Below w.heap.size w W0 := by rw [← hW0]; exact (Below.refl _ _).alloc (Nat.le_refl _) _
  have hbx : W0.heap[w.heap.size]? = some (.cells #[.int .i64 p.kind, .string p.ref, .string p.other, .int .i64 p.day, .slice An p.notes.length Cn, .slice Al p.lines.length Cl] 30) := by rw [← hW0]; exact World.alloc_heap_new _ _
  have HX : Hid (∀ W, Below W0.heap.size W0 W → W.cell? ⟨w.heap.size, 0, none⟩ = some (.int .i64 p.kind) ∧ W.cell? ⟨w.heap.size, 1, none⟩ = some (.string p.ref) ∧ W.cell? ⟨w.heap.size, 2, none⟩ = some (.string p.other) ∧ W.cell? ⟨w.heap.size, 3, none⟩ = some (.int .i64 p.day) ∧ W.cell? ⟨w.heap.size, 4, none⟩ = some (.slice An p.notes.length Cn) ∧ W.cell? ⟨w.heap.size, 5, none⟩ = some (.slice Al p.lines.length Cl)) := fun W hW => pbox ((hW.block _ (Array.getElem?_eq_some_iff.1 hbx).1).trans hbx)
  have HR : Hid (RowL W0 (.slice Al p.lines.length Cl) p.lines ∧ Below w.heap.size w W0) := ⟨(hP.below hb0).ls, hb0⟩
  obtain ⟨pb, hpb⟩ : ∃ pb, pb = papB p := ⟨_, rfl⟩
  have QR : Hid (Calls Tryz.prog 7 #[.agg #[.int .i64 p.kind, .string p.ref, .string p.other, .int .i64 p.day, .slice An p.notes.length Cn, .slice Al p.lines.length Cl]] W0 fun e w' => e = .returned (.bool pb) ∧ Below W0.heap.size W0 w') := by
    rw [hpb]
    exact paperRight_spec p _ _ W0 hI (hP.below hb0) hB
  obtain ⟨sv, hsv⟩ : ∃ sv, sv = sumP p := ⟨_, rfl⟩
  have HSV : Hid (sv = if pb = true then qsum p.lines else 0) := by show _ = _; rw [hsv, hpb]; rfl
  rw [← hsv]
  clear hsv hpb
  obtain ⟨c0, c1, c2, c3, c4, c5⟩ := HX.out W0 (Below.refl _ _)
  go_enter Tryz.func17, Tryz.ntmps17
  go_upto_region 1 with fail
  try rw [hW0]
  clear hW0 hbx hb0 hP hI hB
  go_wp2_with fail
  refine QR.out.mono ?_
  rintro e w1 ⟨rfl, hb1⟩
  have H1 : Hid (RowL w1 (.slice Al p.lines.length Cl) p.lines ∧ Below w.heap.size w w1 ∧ ∀ W, Below w1.heap.size w1 W → W.cell? ⟨w.heap.size, 0, none⟩ = some (.int .i64 p.kind) ∧ W.cell? ⟨w.heap.size, 1, none⟩ = some (.string p.ref) ∧ W.cell? ⟨w.heap.size, 2, none⟩ = some (.string p.other) ∧ W.cell? ⟨w.heap.size, 3, none⟩ = some (.int .i64 p.day) ∧ W.cell? ⟨w.heap.size, 4, none⟩ = some (.slice An p.notes.length Cn) ∧ W.cell? ⟨w.heap.size, 5, none⟩ = some (.slice Al p.lines.length Cl)) := ⟨HR.out.1.below hb1, HR.out.2.trans (hb1.mono HR.out.2.size), fun W hW => HX.out W (hb1.trans (hW.mono hb1.size))⟩
  clear hb1 QR c0 c1 c2 c3 c4 c5
  obtain ⟨c0, c1, c2, c3, c4, c5⟩ := H1.out.2.2 w1 (Below.refl _ _)
  cases pb with
  | false =>
    have HS0 : Hid (sv = 0) := HSV.out
    go_wp2
    go_ret
    exact ⟨by rw [HS0.out]; rfl, H1.out.2.1⟩
  | true =>
    have HS1 : Hid (sv = qsum p.lines) := HSV.out
    clear HSV
    go_wp2_with fail
    go_loopw [3, 4] (fun z ix wr => ∃ (n : Nat) (s : Int), ix = .int .i64 (n : Int) ∧ z = .int .i64 s ∧ n ≤ p.lines.length ∧ -9223372036854775808 ≤ s ∧ s ≤ 9223372036854775807 ∧ s = qsum (p.lines.take n) ∧ Below w1.heap.size w1 wr) (fun _ ix _ => p.lines.length - (intOf ix).toNat)
    case atStart => exact ⟨0, 0, rfl, rfl, by omega, by omega, by omega, by simp [qsum], Below.refl _ _⟩
    case round =>
      obtain ⟨n, s, rfl, rfl, hn, hs0, hs1, hse, hb⟩ := hrel
      have HE : Hid (s = qsum (p.lines.take n) ∧ Below w1.heap.size w1 wr) := ⟨hse, hb⟩
      clear hse c0 c1 c2 c3 c4 c5
      obtain ⟨c0, c1, c2, c3, c4, c5⟩ := H1.out.2.2 wr hb
      by_cases hlt : n < p.lines.length
      · have hlt' : (n : Int) < (p.lines.length : Int) := by omega
        obtain ⟨b, o, cap', l, e, hs, hat, _, _⟩ := (H1.out.1.below hb).at hlt
        simp only [Value.slice.injEq, true_and] at e
        obtain ⟨rfl, rfl⟩ := e
        have HS : Hid (p.lines[n]? = some l) := hs
        obtain ⟨q0, q1, q2, q3, q4⟩ := hat
        have HB : Hid (Below w1.heap.size w1 wr) := hb
        obtain ⟨t, ht⟩ : ∃ t, t = wrap64 (s + l.qty) := ⟨_, rfl⟩
        have HT : Hid (t = wrap64 (s + l.qty)) := ht
        clear hs ht hb
        go_wp2
        rw [← HT.out]
        go_roundw
        case rel =>
          have hin := wrap_in (s + l.qty)
          rw [← HT.out] at hin
          refine ⟨n + 1, t, by go_num, rfl, by omega, hin.1, hin.2, ?_, HB.out⟩
          rw [qsum_next HS.out, ← HE.out.1, HT.out]
        case measure => simp [intOf]; omega
      · obtain rfl : n = p.lines.length := by omega
        have HF : Hid (s = qsum p.lines) := by have := HE.out.1; rw [List.take_length] at this; exact this
        clear hb
        go_wp2
        go_ret
        exact ⟨by rw [HS1.out, HF.out]; rfl, H1.out.2.1.trans (HE.out.2.mono H1.out.2.1.size)⟩
end Go.Proofs.YtgecdmpokahahaaGreatDoor
namespace Go.Proofs.YtgecdmpokahahaaGreatDoor
open Go.ChangeShapes Go.WideShapes Go.ChangeAt Go.RowKit
set_option maxRecDepth 20000 in
set_option maxHeartbeats 16000000 in
theorem paperSum_impl (p : Pap) (un ul : Value) (w : World) (hI : PapI p) (hP : PapR w un ul p) (hB : BdP 1048576 p) (hV : VarsAt w) :
    Calls Tryz.prog 18 #[.agg #[.int .i64 p.kind, .string p.ref, .string p.other, .int .i64 p.day, un, ul]] w fun e w' => e = .returned (.int .i64 (sumP p)) ∧ Below w.heap.size w w' := by
  obtain ⟨An, Cn, rfl⟩ := hP.ns.val
  obtain ⟨Al, Cl, rfl⟩ := hP.ls.val
  have hl0 := hB.2.2.2.1
  obtain ⟨W0, hW0⟩ : ∃ W0, w.alloc (.cells #[.int .i64 p.kind, .string p.ref, .string p.other, .int .i64 p.day, .slice An p.notes.length Cn, .slice Al p.lines.length Cl] 30) = W0 := ⟨_, rfl⟩
  have hb0 : Below w.heap.size w W0 := by rw [← hW0]; exact (Below.refl _ _).alloc (Nat.le_refl _) _
  have hbx : W0.heap[w.heap.size]? = some (.cells #[.int .i64 p.kind, .string p.ref, .string p.other, .int .i64 p.day, .slice An p.notes.length Cn, .slice Al p.lines.length Cl] 30) := by rw [← hW0]; exact World.alloc_heap_new _ _
  have HX : Hid (∀ W, Below W0.heap.size W0 W → W.cell? ⟨w.heap.size, 0, none⟩ = some (.int .i64 p.kind) ∧ W.cell? ⟨w.heap.size, 1, none⟩ = some (.string p.ref) ∧ W.cell? ⟨w.heap.size, 2, none⟩ = some (.string p.other) ∧ W.cell? ⟨w.heap.size, 3, none⟩ = some (.int .i64 p.day) ∧ W.cell? ⟨w.heap.size, 4, none⟩ = some (.slice An p.notes.length Cn) ∧ W.cell? ⟨w.heap.size, 5, none⟩ = some (.slice Al p.lines.length Cl)) := fun W hW => pbox ((hW.block _ (Array.getElem?_eq_some_iff.1 hbx).1).trans hbx)
  have HR : Hid (RowL W0 (.slice Al p.lines.length Cl) p.lines ∧ Below w.heap.size w W0) := ⟨(hP.below hb0).ls, hb0⟩
  obtain ⟨pb, hpb⟩ : ∃ pb, pb = papB p := ⟨_, rfl⟩
  have QR : Hid (Calls Tryz.prog 9 #[.agg #[.int .i64 p.kind, .string p.ref, .string p.other, .int .i64 p.day, .slice An p.notes.length Cn, .slice Al p.lines.length Cl]] W0 fun e w' => e = .returned (.bool pb) ∧ Below W0.heap.size W0 w') := by
    rw [hpb]
    exact paperRight_impl p _ _ W0 hI (hP.below hb0) hB (hV.below hb0)
  obtain ⟨sv, hsv⟩ : ∃ sv, sv = sumP p := ⟨_, rfl⟩
  have HSV : Hid (sv = if pb = true then qsum p.lines else 0) := by show _ = _; rw [hsv, hpb]; rfl
  rw [← hsv]
  clear hsv hpb
  obtain ⟨c0, c1, c2, c3, c4, c5⟩ := HX.out W0 (Below.refl _ _)
  go_enter Tryz.func18, Tryz.ntmps18
  go_upto_region 1 with fail
  try rw [hW0]
  clear hW0 hbx hb0 hP hI hB hV
  go_wp2_with fail
  refine QR.out.mono ?_
  rintro e w1 ⟨rfl, hb1⟩
  have H1 : Hid (RowL w1 (.slice Al p.lines.length Cl) p.lines ∧ Below w.heap.size w w1 ∧ ∀ W, Below w1.heap.size w1 W → W.cell? ⟨w.heap.size, 0, none⟩ = some (.int .i64 p.kind) ∧ W.cell? ⟨w.heap.size, 1, none⟩ = some (.string p.ref) ∧ W.cell? ⟨w.heap.size, 2, none⟩ = some (.string p.other) ∧ W.cell? ⟨w.heap.size, 3, none⟩ = some (.int .i64 p.day) ∧ W.cell? ⟨w.heap.size, 4, none⟩ = some (.slice An p.notes.length Cn) ∧ W.cell? ⟨w.heap.size, 5, none⟩ = some (.slice Al p.lines.length Cl)) := ⟨HR.out.1.below hb1, HR.out.2.trans (hb1.mono HR.out.2.size), fun W hW => HX.out W (hb1.trans (hW.mono hb1.size))⟩
  clear hb1 QR c0 c1 c2 c3 c4 c5
  obtain ⟨c0, c1, c2, c3, c4, c5⟩ := H1.out.2.2 w1 (Below.refl _ _)
  cases pb with
  | false =>
    have HS0 : Hid (sv = 0) := HSV.out
    go_wp2
    go_ret
    exact ⟨by rw [HS0.out]; rfl, H1.out.2.1⟩
  | true =>
    have HS1 : Hid (sv = qsum p.lines) := HSV.out
    clear HSV
    go_wp2_with fail
    go_loopw [3, 12] (fun z ix wr => ∃ (n : Nat) (s : Int), ix = .int .i64 (n : Int) ∧ z = .int .i64 s ∧ n ≤ p.lines.length ∧ -9223372036854775808 ≤ s ∧ s ≤ 9223372036854775807 ∧ s = qsum (p.lines.take n) ∧ Below w1.heap.size w1 wr) (fun _ ix _ => p.lines.length - (intOf ix).toNat)
    case atStart => exact ⟨0, 0, rfl, rfl, by omega, by omega, by omega, by simp [qsum], Below.refl _ _⟩
    case round =>
      obtain ⟨n, s, rfl, rfl, hn, hs0, hs1, hse, hb⟩ := hrel
      have HE : Hid (s = qsum (p.lines.take n) ∧ Below w1.heap.size w1 wr) := ⟨hse, hb⟩
      clear hse c0 c1 c2 c3 c4 c5
      obtain ⟨c0, c1, c2, c3, c4, c5⟩ := H1.out.2.2 wr hb
      by_cases hlt : n < p.lines.length
      · have hlt' : (n : Int) < (p.lines.length : Int) := by omega
        obtain ⟨b, o, cap', l, e, hs, hat, _, _⟩ := (H1.out.1.below hb).at hlt
        simp only [Value.slice.injEq, true_and] at e
        obtain ⟨rfl, rfl⟩ := e
        have HS : Hid (p.lines[n]? = some l) := hs
        obtain ⟨q0, q1, q2, q3, q4⟩ := hat
        have b5 : Below wr.heap.size wr (wr.alloc (.cells #[.int .i64 l.no, .string l.item, .int .i64 l.qty, .int .i64 l.money, .string l.note] 59)) := (Below.refl _ _).alloc (Nat.le_refl _) _
        have HB : Hid (Below w1.heap.size w1 (wr.alloc (.cells #[.int .i64 l.no, .string l.item, .int .i64 l.qty, .int .i64 l.money, .string l.note] 59))) := hb.trans (b5.mono hb.size)
        obtain ⟨t, ht⟩ : ∃ t, t = wrap64 (s + l.qty) := ⟨_, rfl⟩
        have HT : Hid (t = wrap64 (s + l.qty)) := ht
        clear hs ht hb b5
        go_wp2
        rw [← HT.out]
        go_roundw
        case rel =>
          have hin := wrap_in (s + l.qty)
          rw [← HT.out] at hin
          refine ⟨n + 1, t, by go_num, rfl, by omega, hin.1, hin.2, ?_, HB.out⟩
          rw [qsum_next HS.out, ← HE.out.1, HT.out]
        case measure => simp [intOf]; omega
      · obtain rfl : n = p.lines.length := by omega
        have HF : Hid (s = qsum p.lines) := by have := HE.out.1; rw [List.take_length] at this; exact this
        clear hb
        go_wp2
        go_ret
        exact ⟨by rw [HS1.out, HF.out]; rfl, H1.out.2.1.trans (HE.out.2.mono H1.out.2.1.size)⟩
end Go.Proofs.YtgecdmpokahahaaGreatDoor
