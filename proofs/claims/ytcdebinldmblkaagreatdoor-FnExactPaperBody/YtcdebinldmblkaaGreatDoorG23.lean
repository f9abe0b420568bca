/- Texts of ours put together: PiQ. -/
import Derived.Test.YtcdebinldmblkaaGreatDoorG12
import Derived.Test.YtcdebinldmblkaaGreatDoorG22
import Derived.Deep.QuietTactic
import Derived.BigQuiet
import Derived.WalkSmall
namespace Go.Proofs.YtcdebinldmblkaaGreatDoor
open Go.ChangeShapes Go.WideShapes Go.ChangeAt Go.RowKit
theorem RowL.takeL {W : World} {A : Option Addr} {C : Nat} {ls : List Ln} (h : RowL W (.slice A ls.length C) ls) (k cap : Nat) (hk : k ≤ ls.length) : RowL W (.slice A k cap) (ls.take k) := by
  have hl : (ls.take k).length = k := by rw [List.length_take]; omega
  obtain ⟨a, c, e, hc⟩ := h.shape
  simp only [Value.slice.injEq, true_and] at e
  obtain ⟨rfl, rfl⟩ := e
  have hget : ∀ (i : Nat) (g : Ln), (ls.take k)[i]? = some g → ls[i]? = some g := fun i g hi => by
    have hlt := (List.getElem?_eq_some_iff.1 hi).1
    rwa [List.getElem?_take_of_lt (by omega)] at hi
  refine ⟨⟨A, cap, by rw [hl], fun hn => ?_⟩, by have := h.len; omega, fun i g hi => h.sizes i g (hget i g hi)⟩
  obtain ⟨b, o, ea, hcell⟩ := hc (fun e => hn (by rw [e]; simp))
  exact ⟨b, o, ea, fun i g hi => hcell i g (hget i g hi)⟩
/-- The No ahead of place k. -/
def lastN (ls : List Ln) (k : Nat) : Int := if k = 0 then 0 else ((ls[k - 1]?).map Ln.no).getD 0
theorem lastN_next {ls : List Ln} {k : Nat} {l : Ln} (h : ls[k]? = some l) : lastN ls (k + 1) = l.no := by
  unfold lastN
  rw [if_neg (by omega), Nat.add_sub_cancel, h]
  rfl
theorem badL_iff {r o : Bool} {ls : List Ln} {k : Nat} {l : Ln} (h : ls[k]? = some l) : badL r o ls k ↔ (r = true ∧ (l.no ≤ lastN ls k ∨ 999 < l.no)) ∨ (o = true ∧ itmB (ls.take k) l.item = true) := by
  unfold badL lastN
  constructor
  · rintro ⟨m, hm, q⟩
    rw [h] at hm
    cases hm
    rcases q with q | ⟨q1, j, m, hj, hm, he⟩
    · exact .inl q
    · exact .inr ⟨q1, itmB_yes (i := j) (l := m) (by rw [List.getElem?_take_of_lt hj]; exact hm) (by rw [he]; simp)⟩
  · rintro (q | ⟨q1, q2⟩)
    · exact ⟨l, h, .inl q⟩
    · refine ⟨l, h, .inr ⟨q1, ?_⟩⟩
      unfold itmB at q2
      rw [List.any_eq_true] at q2
      obtain ⟨m, hm, he⟩ := q2
      obtain ⟨j, hj⟩ := List.getElem?_of_mem hm
      have hlt := (List.getElem?_eq_some_iff.1 hj).1
      rw [List.length_take] at hlt
      rw [List.getElem?_take_of_lt (by omega)] at hj
      exact ⟨j, m, by omega, hj, ba_of_list he⟩
/-- What outOfPlace tells. -/
def OopOut (k : Int) (ls : List Ln) (w : World) (e : Ending) (w' : World) : Prop := ∃ r : Int, e = .returned (.int .i64 r) ∧ ((r = -1 ∧ PlcOk k ls) ∨ (0 ≤ r ∧ r ≤ 100 ∧ ¬ PlcOk k ls)) ∧ Below w.heap.size w w'
set_option maxRecDepth 20000 in
set_option maxHeartbeats 8000000 in
theorem outOfPlace_any (q : Pap) (un ul : Value) (w : World) (hk : 1 ≤ q.kind ∧ q.kind ≤ 7) (h : PapR w un ul q) (hc : CapL ul q.lines.length) (hl : q.lines.length ≤ 20) :
    Calls Tryz.prog 61 #[.agg #[.int .i64 q.kind, .string q.ref, .string q.other, .int .i64 q.day, un, ul]] w fun e w' => OopOut q.kind q.lines w e w' := by
  obtain ⟨A, C, rfl, hlC, hCm⟩ := hc
  obtain ⟨W0, hW0⟩ : ∃ W0, w.alloc (.cells #[.int .i64 q.kind, .string q.ref, .string q.other, .int .i64 q.day, un, .slice A q.lines.length C] 31) = W0 := ⟨_, rfl⟩
  have hb0 : Below w.heap.size w W0 := by rw [← hW0]; exact (Below.refl _ _).alloc (Nat.le_refl _) _
  have hbx : W0.heap[w.heap.size]? = some (.cells #[.int .i64 q.kind, .string q.ref, .string q.other, .int .i64 q.day, un, .slice A q.lines.length C] 31) := by rw [← hW0]; exact World.alloc_heap_new _ _
  have HX : Hid (∀ W, Below W0.heap.size W0 W → W.cell? ⟨w.heap.size, 0, none⟩ = some (.int .i64 q.kind) ∧ W.cell? ⟨w.heap.size, 5, none⟩ = some (.slice A q.lines.length C)) := fun W hW => by
    obtain ⟨z0, z1, z2, z3, z4, z5⟩ := pbox ((hW.block _ (Array.getElem?_eq_some_iff.1 hbx).1).trans hbx)
    exact ⟨z0, z5⟩
  have HR : Hid (RowL W0 (.slice A q.lines.length C) q.lines ∧ Below w.heap.size w W0) := ⟨h.ls.below hb0, hb0⟩
  obtain ⟨r, hr⟩ : ∃ r, r = risB q.kind := ⟨_, rfl⟩
  obtain ⟨o, ho⟩ : ∃ o, o = oncB q.kind := ⟨_, rfl⟩
  have QR := rulesOf_any q.kind
  rw [← hr, ← ho] at QR
  have HP : Hid ((∀ ls, PlcOk q.kind ls ↔ ∀ i, ¬ badL r o ls i)) := fun ls => by unfold PlcOk; rw [hr, ho]
  obtain ⟨c0, c5⟩ := HX.out W0 (Below.refl _ _)
  obtain ⟨ls, hls⟩ : ∃ ls, ls = q.lines := ⟨_, rfl⟩
  rw [← hls] at HR HX c5 hl hlC ⊢
  go_enter Tryz.func61, Tryz.ntmps61
  go_upto_region 1 with fail
  try rw [hls]
  try rw [hW0]
  try rw [← hls]
  clear hW0 hbx hb0 h hls hr ho
  go_wp2_with fail
  refine (paperKindOf_any q.kind _ hk).mono ?_
  rintro e W0 ⟨rfl, rfl⟩
  go_wp2_with fail
  refine (QR _ hk).mono ?_
  rintro e W0 ⟨rfl, rfl⟩
  clear QR
  go_wp2_with fail
  go_loopw [5, 18] (fun z i wr => ∃ k : Nat, i = .int .i64 (k : Int) ∧ z = .int .i64 (lastN ls k) ∧ k ≤ ls.length ∧ (∀ i, i < k → ¬ badL r o ls i) ∧ Below W0.heap.size W0 wr) (fun _ i _ => ls.length - (intOf i).toNat)
  case atStart => exact ⟨0, rfl, rfl, by omega, fun i hi => by omega, Below.refl _ _⟩
  case round =>
    obtain ⟨k, rfl, rfl, hkl, hA, hb⟩ := hrel
    obtain ⟨z, hz⟩ : ∃ z, z = lastN ls k := ⟨_, rfl⟩
    rw [← hz]
    have HA : Hid ((∀ i, i < k → ¬ badL r o ls i) ∧ Below W0.heap.size W0 wr ∧ z = lastN ls k) := ⟨hA, hb, hz⟩
    clear hA hz c0 c5
    by_cases hlt : k < ls.length
    · have hlt' : (k : Int) < (ls.length : Int) := by omega
      obtain ⟨b, of, cap', l, e, hs, hat, hz1, _⟩ := (HR.out.1.below hb).at hlt
      simp only [Value.slice.injEq, true_and] at e
      obtain ⟨rfl, rfl⟩ := e
      obtain ⟨q0, q1, q2, q3, q4⟩ := hat
      have b1 : Below wr.heap.size wr (wr.alloc (.cells #[.int .i64 l.no, .string l.item, .int .i64 l.qty, .int .i64 l.money, .string l.note] 63)) := (Below.refl _ _).alloc (Nat.le_refl _) _
      obtain ⟨W1, hW1⟩ : ∃ W1, (wr.alloc (.cells #[.int .i64 l.no, .string l.item, .int .i64 l.qty, .int .i64 l.money, .string l.note] 63)) = W1 := ⟨_, rfl⟩
      rw [hW1] at b1
      have y1 : W1.heap[wr.heap.size]? = some (.cells #[.int .i64 l.no, .string l.item, .int .i64 l.qty, .int .i64 l.money, .string l.note] 63) := by rw [← hW1]; exact World.alloc_heap_new _ _
      have bW : Below W0.heap.size W0 W1 := hb.trans (b1.mono hb.size)
      have HS : Hid (ls[k]? = some l ∧ Below W0.heap.size W0 W1 ∧ RowL W1 (.slice (some ⟨b, of, none⟩) ls.length C) ls ∧ W1.heap[wr.heap.size]? = some (.cells #[.int .i64 l.no, .string l.item, .int .i64 l.qty, .int .i64 l.money, .string l.note] 63) ∧ Below w.heap.size w W1) := ⟨hs, bW, HR.out.1.below bW, y1, HR.out.2.trans (bW.mono HR.out.2.size)⟩
      obtain ⟨s0, s1, s2, s3, s4⟩ := box5 y1
      obtain ⟨c0, c5⟩ := HX.out W1 bW
      obtain ⟨X, hX⟩ : ∃ X, X = wr.heap.size := ⟨_, rfl⟩
      rw [← hX] at s0 s1 s2 s3 s4
      have HY : Hid (∀ W, Below W1.heap.size W1 W → W.cell? ⟨X, 0, none⟩ = some (.int .i64 l.no) ∧ W.cell? ⟨X, 1, none⟩ = some (.string l.item)) := fun W hW => by
        have y2 := (hW.block _ (Array.getElem?_eq_some_iff.1 y1).1).trans y1
        rw [← hX] at y2
        exact ⟨(box5 y2).1, (box5 y2).2.1⟩
      have HBAD : Hid (∀ (W : World), Below w.heap.size w W → badL r o ls k → OopOut q.kind ls w (.returned (.int .i64 (k : Int))) W) := fun W hW hbd => ⟨_, rfl, .inr ⟨by omega, by omega, fun g => (HP.out ls).1 g k hbd⟩, hW⟩
      have HB : Hid (badL r o ls k ↔ (r = true ∧ (l.no ≤ z ∨ 999 < l.no)) ∨ (o = true ∧ itmB (ls.take k) l.item = true)) := by show _ ↔ _; rw [HA.out.2.2]; exact badL_iff hs
      clear hs hb b1 bW y1
      go_upto_region 6 with fail
      try rw [hW1]
      try rw [← hX]
      clear hW1 hX q0 q1 q2 q3 q4
      cases r with
      | false =>
        cases o with
        | false =>
          have HNB : Hid (¬ badL false false ls k) := by show ¬ _; rw [HB.out]; simp
          go_upto_region 8 with fail
          go_quiet (fail)
          have HD : Hid (∀ n, Below W0.heap.size W0 (W1.drewN n)) := fun n => below_drewN HS.out.2.1 n
          go_wp2
          go_roundw
          case rel =>
            refine ⟨k + 1, by go_num, by rw [lastN_next HS.out.1], by omega, fun i hi => ?_, HD.out _⟩
            rcases Nat.lt_or_ge i k with g | g
            · exact HA.out.1 i g
            · obtain rfl : i = k := by omega
              exact fun hbd => HNB.out hbd
          case measure => simp [intOf]; omega
        | true =>
          have QI := hasItem_any (.slice (some ⟨b, of, none⟩) k C) (ls.take k) l.item
          obtain ⟨hv, hhv⟩ : ∃ hv, hv = itmB (ls.take k) l.item := ⟨_, rfl⟩
          rw [← hhv] at QI
          have HV : Hid (hv = itmB (ls.take k) l.item) := hhv
          have hrow := HS.out.2.2.1.takeL k C (by omega)
          have HRW : Hid (∀ W, Below W1.heap.size W1 W → RowL W (.slice (some ⟨b, of, none⟩) k C) (ls.take k)) := fun W hW => hrow.below hW
          clear hhv hrow
          have hkC : (k : Int) ≤ (C : Int) := by omega
          go_upto_region 8 with fail
          go_region_held3 (fun W => W.cell? ⟨w.heap.size, 5, none⟩ = some (.slice (some ⟨b, of, none⟩) ls.length C) ∧ W.cell? ⟨X, 1, none⟩ = some (.string l.item)) (go_keep) (first | (go_at_call 77; refine (QI _ (by first | exact HRW.out _ (Below.refl _ _) | exact HRW.out _ (Below.refl _ _).drew)).mono ?_; rintro e w5 ⟨rfl, hb5⟩; have b5 : Below W1.heap.size W1 w5 := (by first | exact hb5 | exact undrewP hb5); obtain ⟨g0, g5⟩ := HX.out w5 (HS.out.2.1.trans (b5.mono HS.out.2.1.size)); obtain ⟨t0, t1⟩ := HY.out w5 b5; clear hb5; try dsimp only) | fail)
          rename_i hHeld
          clear hHeld
          have H5 : Hid (Below W0.heap.size W0 w5 ∧ Below w.heap.size w w5) := ⟨HS.out.2.1.trans (b5.mono HS.out.2.1.size), HS.out.2.2.2.2.trans (b5.mono HS.out.2.2.2.2.size)⟩
          cases hv with
          | true =>
            have HB1 : Hid (badL false true ls k) := HB.out.2 (.inr ⟨rfl, HV.out.symm⟩)
            go_wp2
            go_ret
            exact HBAD.out _ H5.out.2 HB1.out
          | false =>
            have HNB : Hid (¬ badL false true ls k) := by show ¬ _; rw [HB.out, ← HV.out]; simp
            go_wp2
            go_roundw
            case rel =>
              refine ⟨k + 1, by go_num, by rw [lastN_next HS.out.1], by omega, fun i hi => ?_, H5.out.1⟩
              rcases Nat.lt_or_ge i k with g | g
              · exact HA.out.1 i g
              · obtain rfl : i = k := by omega
                exact fun hbd => HNB.out hbd
            case measure => simp [intOf]; omega
      | true =>
        by_cases h1 : l.no ≤ z
        · have HB1 : Hid (badL true o ls k) := HB.out.2 (.inl ⟨rfl, .inl h1⟩)
          go_wp2
          go_ret
          exact HBAD.out _ HS.out.2.2.2.2 HB1.out
        · by_cases h2 : 999 < l.no
          · have HB1 : Hid (badL true o ls k) := HB.out.2 (.inl ⟨rfl, .inr h2⟩)
            go_wp2
            go_ret
            exact HBAD.out _ HS.out.2.2.2.2 HB1.out
          · skip
            cases o with
            | false =>
              have HNB : Hid (¬ badL true false ls k) := by show ¬ _; rw [HB.out]; simp; omega
              go_upto_region 8 with fail
              go_quiet (fail)
              have HD : Hid (∀ n, Below W0.heap.size W0 (W1.drewN n)) := fun n => below_drewN HS.out.2.1 n
              go_wp2
              go_roundw
              case rel =>
                refine ⟨k + 1, by go_num, by rw [lastN_next HS.out.1], by omega, fun i hi => ?_, HD.out _⟩
                rcases Nat.lt_or_ge i k with g | g
                · exact HA.out.1 i g
                · obtain rfl : i = k := by omega
                  exact fun hbd => HNB.out hbd
              case measure => simp [intOf]; omega
            | true =>
              have QI := hasItem_any (.slice (some ⟨b, of, none⟩) k C) (ls.take k) l.item
              obtain ⟨hv, hhv⟩ : ∃ hv, hv = itmB (ls.take k) l.item := ⟨_, rfl⟩
              rw [← hhv] at QI
              have HV : Hid (hv = itmB (ls.take k) l.item) := hhv
              have hrow := HS.out.2.2.1.takeL k C (by omega)
              have HRW : Hid (∀ W, Below W1.heap.size W1 W → RowL W (.slice (some ⟨b, of, none⟩) k C) (ls.take k)) := fun W hW => hrow.below hW
              clear hhv hrow
              have hkC : (k : Int) ≤ (C : Int) := by omega
              go_upto_region 8 with fail
              go_region_held3 (fun W => W.cell? ⟨w.heap.size, 5, none⟩ = some (.slice (some ⟨b, of, none⟩) ls.length C) ∧ W.cell? ⟨X, 1, none⟩ = some (.string l.item)) (go_keep) (first | (go_at_call 77; refine (QI _ (by first | exact HRW.out _ (Below.refl _ _) | exact HRW.out _ (Below.refl _ _).drew)).mono ?_; rintro e w5 ⟨rfl, hb5⟩; have b5 : Below W1.heap.size W1 w5 := (by first | exact hb5 | exact undrewP hb5); obtain ⟨g0, g5⟩ := HX.out w5 (HS.out.2.1.trans (b5.mono HS.out.2.1.size)); obtain ⟨t0, t1⟩ := HY.out w5 b5; clear hb5; try dsimp only) | fail)
              rename_i hHeld
              clear hHeld
              have H5 : Hid (Below W0.heap.size W0 w5 ∧ Below w.heap.size w w5) := ⟨HS.out.2.1.trans (b5.mono HS.out.2.1.size), HS.out.2.2.2.2.trans (b5.mono HS.out.2.2.2.2.size)⟩
              cases hv with
              | true =>
                have HB1 : Hid (badL true true ls k) := HB.out.2 (.inr ⟨rfl, HV.out.symm⟩)
                go_wp2
                go_ret
                exact HBAD.out _ H5.out.2 HB1.out
              | false =>
                have HNB : Hid (¬ badL true true ls k) := by show ¬ _; rw [HB.out, ← HV.out]; simp; omega
                go_wp2
                go_roundw
                case rel =>
                  refine ⟨k + 1, by go_num, by rw [lastN_next HS.out.1], by omega, fun i hi => ?_, H5.out.1⟩
                  rcases Nat.lt_or_ge i k with g | g
                  · exact HA.out.1 i g
                  · obtain rfl : i = k := by omega
                    exact fun hbd => HNB.out hbd
                case measure => simp [intOf]; omega
    · obtain rfl : k = ls.length := by omega
      have HF : Hid (PlcOk q.kind ls ∧ Below w.heap.size w wr) := ⟨(HP.out ls).2 fun i hbd => by
        have hbd2 := hbd
        obtain ⟨m, hm, _⟩ := hbd2
        exact HA.out.1 i (List.getElem?_eq_some_iff.1 hm).1 hbd, HR.out.2.trans (hb.mono HR.out.2.size)⟩
      clear hb
      go_wp2
      go_ret
      exact ⟨_, rfl, .inl ⟨rfl, HF.out.1⟩, HF.out.2⟩
end Go.Proofs.YtcdebinldmblkaaGreatDoor
