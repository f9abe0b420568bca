/- Contracts of the program's placeOfRef and linesOfOrder. -/
import Derived.Test.YtppfobeencnbdaaThF
import Derived.BigQuiet
import Derived.Deep.QuietTactic
import Derived.BigRegion
import Derived.Deep.DeepMust
namespace Go.Proofs.Ytppfobeencnbdaa
open Go.ChangeShapes Go.WideShapes Go.ChangeAt Go.RowKit
theorem below_drewNT {B : Nat} {a w : World} (h : Below B a w) (n : Nat) : Below B a (w.drewN n) := h.trans ⟨rfl, rfl, rfl, Nat.le_refl _, fun _ _ => rfl⟩
set_option maxHeartbeats 4000000 in
theorem placeOfRef_any (A : Option Addr) (C : Nat) (rs : List OLn) (p r : ByteArray) (w : World) (h : RowOl w (.slice A rs.length C) rs) (hl : rs.length ≤ 1000) (hs : rs.Pairwise fun a b => befL a b = true) :
    Calls Try.prog 43 #[.slice A rs.length C, .string p, .string r] w fun e w' => e = .returned (.tuple #[.int .i64 (plcL rs (tgtL p r 0) : Nat), .bool ((rs[plcL rs (tgtL p r 0)]?).any (ofR p r))]) ∧ Below w.heap.size w w' := by
  have Q := place_any (.slice A rs.length C) rs (tgtL p r 0) w h hl hs
  obtain ⟨n, hn⟩ : ∃ n, n = plcL rs (tgtL p r 0) := ⟨_, rfl⟩
  obtain ⟨q, hq⟩ : ∃ q, q = (rs[plcL rs (tgtL p r 0)]?).any fun x => decide (lcmp x (tgtL p r 0) = 0) := ⟨_, rfl⟩
  rw [← hq, ← hn] at Q
  rw [← hn]
  have hnl : n ≤ rs.length := by rw [hn]; exact List.countP_le_length
  clear hn hq
  have H0 : Hid (RowOl w (.slice A rs.length C) rs) := h
  clear h
  obtain ⟨x, hx⟩ : ∃ x, x = (rs[n]?).any (ofR p r) := ⟨_, rfl⟩
  rw [← hx]
  go_enter Try.func43, Try.ntmps43
  go_wp2_with fail
  refine Q.mono ?_
  rintro e w1 ⟨rfl, hb1⟩
  have H1 : Hid (Below w.heap.size w w1) := hb1
  clear hb1 Q
  go_upto_region 2 with fail
  by_cases hlt : n < rs.length
  · have hlt' : (n : Int) < (rs.length : Int) := by omega
    have hd1 : decide ((n : Int) < (rs.length : Int)) = true := decide_eq_true hlt'
    obtain ⟨b, o, cap', c, e, hsc, ⟨q0, q1, q2, q3, q4, q5, q6, q7⟩, hsz⟩ := (H0.out.below H1.out).at hlt
    simp only [Value.slice.injEq, true_and] at e
    obtain ⟨rfl, rfl⟩ := e
    rw [hsc, Option.any_some] at hx
    have HX : Hid (x = ofR p r c) := hx
    clear hx hsc hsz
    cases e1 : (c.partner.toList == p.toList) with
    | false =>
      have HS : Hid (x = false) := by show x = _; rw [HX.out, ofR, e1]; rfl
      go_quiet (fail)
      go_wp2
      go_ret2
      exact ⟨by rw [HS.out]; rfl, below_drewNT H1.out _⟩
    | true =>
      cases e2 : (c.ref.toList == r.toList) with
      | false =>
        have HS : Hid (x = false) := by show x = _; rw [HX.out, ofR, e1, e2]; rfl
        go_quiet (fail)
        go_wp2
        go_ret2
        exact ⟨by rw [HS.out]; rfl, below_drewNT H1.out _⟩
      | true =>
        have HS : Hid (x = true) := by show x = _; rw [HX.out, ofR, e1, e2]; rfl
        go_quiet (fail)
        go_wp2
        go_ret2
        exact ⟨by rw [HS.out]; rfl, below_drewNT H1.out _⟩
  · have hlt' : ¬ (n : Int) < (rs.length : Int) := by omega
    have hd1 : decide ((n : Int) < (rs.length : Int)) = false := decide_eq_false hlt'
    have HS : Hid (x = false) := by show x = _; rw [hx, List.getElem?_eq_none (by omega)]; rfl
    clear hx
    go_quiet (fail)
    go_wp2
    go_ret2
    exact ⟨by rw [HS.out]; rfl, below_drewNT H1.out _⟩
end Go.Proofs.Ytppfobeencnbdaa
