/- Contract of the laws' lwBook. -/
import Derived.Test.YtenjcmgkfemmgaaMvT
import Derived.Test.YtenjcmgkfemmgaaKeep
import Derived.Laws.StructEq
import Derived.WalkSmall
import Derived.Deep.QuietTactic
import Derived.BigQuiet
import Derived.Deep.Cut
import Derived.Deep.CutRange
namespace Go.Proofs.Ytenjcmgkfemmgaa
open Go.ChangeShapes Go.WideShapes Go.ChangeAt Go.RowKit
theorem stkUnder : Try.prog.underlying 44 = some (.struct (Try.prog.fieldsOf 44)) := by kernel_rfl
def stqB (a b : Stk) : Bool := decide (a.item.toList = b.item.toList) && decide (a.hand = b.hand)
theorem stqB_iff {a b : Stk} : stqB a b = true ↔ a = b := by
  constructor
  · intro h
    simp only [stqB, Bool.and_eq_true, decide_eq_true_eq] at h
    obtain ⟨h1, h2⟩ := h
    have h3 : nmS b.item a = true := by simp [nmS, h1]
    have h4 := nm_eq h3
    cases a
    cases b
    simp only at h2 h4
    subst h2
    have : _ = _ := h4
    subst this
    rfl
  · rintro rfl
    simp [stqB]
set_option maxRecDepth 100000 in
theorem run_neq_st (a b : Stk) (w : World) : (binOp .neq 44 (.agg #[.string a.item, .int .i64 a.hand]) (.agg #[.string b.item, .int .i64 b.hand])).run Try.prog w = .ok (.bool (!stqB a b)) w := by
  have hF : Try.prog.fieldsOf 44 = (match Try.prog.underlying 44 with | some (.struct fs) => fs | _ => #[]) := rfl
  rw [Try.underlying44] at hF
  rw [run_neq_struct, run_equalIn_struct _ _ _ _ _ stkUnder (by kernel_rfl), hF]
  simp [go_sem, Op.eqFields]
  by_cases h1 : a.item.toList = b.item.toList <;> by_cases h2 : a.hand = b.hand <;> simp [h1, h2, stqB]
theorem olnUnder : Try.prog.underlying 54 = some (.struct (Try.prog.fieldsOf 54)) := by kernel_rfl
set_option maxRecDepth 100000 in
theorem run_neq_oln (l : OLn) (w : World) : (binOp .neq 54 (.agg #[.string l.partner, .string l.ref, .int .i64 l.no, .string l.item, .int .i64 l.ordered, .int .i64 l.sent, .int .i64 l.got, .int .i64 l.cut]) (.agg #[.string l.partner, .string l.ref, .int .i64 l.no, .string l.item, .int .i64 l.ordered, .int .i64 l.sent, .int .i64 l.got, .int .i64 l.cut])).run Try.prog w = .ok (.bool false) w := by
  have hF : Try.prog.fieldsOf 54 = (match Try.prog.underlying 54 with | some (.struct fs) => fs | _ => #[]) := rfl
  rw [Try.underlying54] at hF
  rw [run_neq_struct, run_equalIn_struct _ _ _ _ _ olnUnder (by kernel_rfl), hF]
  simp [go_sem, Op.eqFields]
open Classical in
/-- Are they the same stocks? -/
noncomputable def stksB (ps qs : List Stk) : Bool := decide (ps = qs)
theorem stksB_iff {ps qs : List Stk} : stksB ps qs = true ↔ ps = qs := by simp [stksB]
theorem stksB_no {ps qs : List Stk} (h : ps ≠ qs) : stksB ps qs = false := by simp [stksB, h]
set_option maxRecDepth 20000 in
set_option maxHeartbeats 8000000 in
theorem lwBook_any (ps qs : List Stk) (ls : List OLn) (us ul us' ul' : Value) (w : World) (h : RBk w us ul ⟨ps, ls⟩) (h' : RBk w us' ul' ⟨qs, ls⟩) : Calls Try.prog 8 #[.agg #[us, ul], .agg #[us', ul']] w fun e w' => e = .returned (.bool (stksB ps qs)) ∧ Below w.heap.size w w' := by
  obtain ⟨a, c, a', c', rfl, rfl⟩ := h.val
  obtain ⟨d, f, d', f', rfl, rfl⟩ := h'.val
  have hl1 := h.st.len
  have hl2 := h.ln.len
  have hl3 := h'.st.len
  dsimp only at *
  obtain ⟨W0, hW0⟩ : ∃ W0, (w.alloc (.cells #[.slice a ps.length c, .slice a' ls.length c'] 26)).alloc (.cells #[.slice d qs.length f, .slice d' ls.length f'] 26) = W0 := ⟨_, rfl⟩
  have hb0 : Below w.heap.size w W0 := by rw [← hW0]; exact ((Below.refl _ _).alloc (Nat.le_refl _) _).alloc (by simp) _
  obtain ⟨x0, x1⟩ := fl_two w (.cells #[.slice a ps.length c, .slice a' ls.length c'] 26) (.cells #[.slice d qs.length f, .slice d' ls.length f'] 26)
  rw [hW0] at x0 x1
  have H0 : Hid (Below w.heap.size w W0 ∧ RBk W0 (.slice a ps.length c) (.slice a' ls.length c') ⟨ps, ls⟩ ∧ RBk W0 (.slice d qs.length f) (.slice d' ls.length f') ⟨qs, ls⟩) := ⟨hb0, h.below hb0, h'.below hb0⟩
  obtain ⟨c0, c1⟩ := box2 x0
  obtain ⟨c2, c3⟩ := box2 x1
  clear h h' hb0 x0 x1
  go_enter Try.func8, Try.ntmps8
  go_upto_region 1 with fail
  try rw [hW0]
  clear hW0
  by_cases hne : ps.length = qs.length
  rotate_left
  · have hne' : ¬ (ps.length : Int) = (qs.length : Int) := by omega
    have e : stksB ps qs = false := stksB_no fun e => hne (by rw [e])
    have HF : Hid (stksB ps qs = false) := e
    clear e
    go_wp2
    go_ret
    exact ⟨by rw [HF.out]; rfl, H0.out.1⟩
  have HE : Hid (ps.length = qs.length) := hne
  have hne' : (ps.length : Int) = (qs.length : Int) := by omega
  go_upto_region 3 with fail
  clear hne'
  go_wp2_with fail
  go_loopw [5] (fun i wr => ∃ k : Nat, i = .int .i64 (k : Int) ∧ k ≤ ps.length ∧ (∀ j x y, j < k → ps[j]? = some x → qs[j]? = some y → x = y) ∧ ∃ q, wr = W0.drewN q) (fun i _ => ps.length - (intOf i).toNat)
  case atStart => exact ⟨0, rfl, by omega, fun j x y hj => by omega, 0, rfl⟩
  case round =>
    obtain ⟨k, rfl, hk, hall, q, rfl⟩ := hrel
    have HA : Hid (∀ j x y, j < k → ps[j]? = some x → qs[j]? = some y → x = y) := hall
    clear hall
    by_cases hlt : k < ps.length
    · have hlt' : (k : Int) < (ps.length : Int) := by omega
      have hlt2 : k < qs.length := by omega
      have hlt2' : (k : Int) < (qs.length : Int) := by omega
      obtain ⟨b1, o1, cp1, x, e1, hs1, ⟨q0, q1⟩, _⟩ := H0.out.2.1.st.at hlt
      simp only [Value.slice.injEq, true_and] at e1
      obtain ⟨rfl, rfl⟩ := e1
      obtain ⟨b2, o2, cp2, y, e2, hs2, ⟨q2, q3⟩, _⟩ := H0.out.2.2.st.at hlt2
      simp only [Value.slice.injEq, true_and] at e2
      obtain ⟨rfl, rfl⟩ := e2
      have hnq := run_neq_st x y
      have HS : Hid (ps[k]? = some x ∧ qs[k]? = some y) := ⟨hs1, hs2⟩
      clear hs1 hs2
      cases hxy : stqB x y with
      | false =>
        rw [hxy] at hnq
        have e : stksB ps qs = false := stksB_no fun e => by
          have h1 := HS.out
          rw [e, h1.2] at h1
          have h2 := Option.some.inj h1.1
          rw [stqB_iff.2 h2.symm] at hxy
          cases hxy
        have HF : Hid (stksB ps qs = false) := e
        clear hxy e
        go_wp2_with fail
        go_quiet (fail)
        go_wp2
        go_ret
        exact ⟨by rw [HF.out]; rfl, by first | exact below_drewN H0.out.1 _ | exact (below_drewN H0.out.1 _).drew | exact below_drewN (below_drewN H0.out.1 _) _⟩
      | true =>
        rw [hxy] at hnq
        have HX : Hid (x = y) := stqB_iff.1 hxy
        clear hxy
        go_wp2_with fail
        go_quiet (fail)
        go_wp2
        go_roundw
        case rel =>
          refine ⟨k + 1, by go_num, by omega, fun j x' y' hj h1 h2 => ?_, _, rfl⟩
          by_cases hjk : j = k
          · subst hjk
            have h3 := HS.out
            rw [h1, h2] at h3
            rw [Option.some.inj h3.1, Option.some.inj h3.2]
            exact HX.out
          · exact HA.out j x' y' (by omega) h1 h2
        case measure => simp [intOf]; omega
    · obtain rfl : k = ps.length := by omega
      have e : stksB ps qs = true := stksB_iff.2 (List.ext_getElem? fun i => by
        by_cases hi : i < ps.length
        · have h1 := List.getElem?_eq_getElem hi
          have h2 := List.getElem?_eq_getElem (show i < qs.length by have := HE.out; omega)
          rw [h1, h2, HA.out i _ _ hi h1 h2]
        · rw [List.getElem?_eq_none (by omega), List.getElem?_eq_none (by have := HE.out; omega)])
      have HF : Hid (stksB ps qs = true) := e
      clear HA e
      go_upto_region 8 with fail
      go_wp2_with fail
      go_loopw [6] (fun i wr => ∃ k : Nat, i = .int .i64 (k : Int) ∧ k ≤ ls.length ∧ ∃ q, wr = W0.drewN q) (fun i _ => ls.length - (intOf i).toNat)
      case atStart => exact ⟨0, rfl, by omega, _, rfl⟩
      case round =>
        obtain ⟨k, rfl, hk, q, rfl⟩ := hrel
        by_cases hlt : k < ls.length
        · have hlt' : (k : Int) < (ls.length : Int) := by omega
          obtain ⟨b1, o1, cp1, x, e1, hs1, ⟨q0, q1, q2, q3, q4, q5, q6, q7⟩, _⟩ := H0.out.2.1.ln.at hlt
          simp only [Value.slice.injEq, true_and] at e1
          obtain ⟨rfl, rfl⟩ := e1
          obtain ⟨b2, o2, cp2, y, e2, hs2, ⟨r0, r1, r2, r3, r4, r5, r6, r7⟩, _⟩ := H0.out.2.2.ln.at hlt
          simp only [Value.slice.injEq, true_and] at e2
          obtain ⟨rfl, rfl⟩ := e2
          dsimp only at hs1 hs2
          obtain rfl : x = y := by rw [hs1] at hs2; exact Option.some.inj hs2
          have hnq := run_neq_oln x
          clear hs1 hs2
          go_wp2_with fail
          go_quiet (fail)
          go_wp2
          go_roundw
          case rel => exact ⟨k + 1, by go_num, by omega, _, rfl⟩
          case measure => simp [intOf]; omega
        · obtain rfl : k = ls.length := by omega
          go_wp2
          go_ret
          exact ⟨by rw [HF.out]; rfl, by first | exact below_drewN H0.out.1 _ | exact (below_drewN H0.out.1 _).drew | exact below_drewN (below_drewN H0.out.1 _) _⟩
end Go.Proofs.Ytenjcmgkfemmgaa
