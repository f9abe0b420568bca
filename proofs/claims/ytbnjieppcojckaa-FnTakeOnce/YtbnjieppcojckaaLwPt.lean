/- Contract of the laws' lwPartner: two partners that read as the same are told to be. -/
import Derived.Test.YtbnjieppcojckaaRowPt
import Derived.Laws.StructEq
import Derived.Deep.RegionHeld3
import Derived.Deep.QuietTactic
import Derived.BigQuiet
import Derived.BigRegion
import Derived.WalkSmall
namespace Go.Proofs.Ytbnjieppcojckaa
open Go.ChangeShapes Go.WideShapes Go.ChangeAt Go.RowKit
theorem snUnder : Try.prog.underlying 34 = some (.struct (Try.prog.fieldsOf 34)) := by kernel_rfl
theorem run_neq_sn (a b c : Int) (w : World) : (binOp .neq 34 (.agg #[.int .i64 a, .int .i64 b, .int .i64 c]) (.agg #[.int .i64 a, .int .i64 b, .int .i64 c])).run Try.prog w = .ok (.bool false) w := by
  have hF : Try.prog.fieldsOf 34 = (match Try.prog.underlying 34 with | some (.struct fs) => fs | _ => #[]) := rfl
  rw [Try.underlying34] at hF
  rw [run_neq_struct, run_equalIn_struct _ _ _ _ _ snUnder (by kernel_rfl), hF]
  simp [go_sem, Op.eqFields]
set_option maxRecDepth 100000 in
set_option maxHeartbeats 4000000 in
theorem lwPartner_any (p : Ptn) (v v' : Value) (w : World) (h : RPt w v p) (h' : RPt w v' p) :
    Calls Try.prog 11 #[.agg #[.string p.name, .int .i64 p.low, .int .i64 p.next, v], .agg #[.string p.name, .int .i64 p.low, .int .i64 p.next, v']] w fun e w' => e = .returned (.bool true) ∧ Below w.heap.size w w' := by
  obtain ⟨name, low, next, rs⟩ := p
  have hlen := h.ls.len
  obtain ⟨A, C, rfl⟩ := h.ls.val
  obtain ⟨A', C', rfl⟩ := h'.ls.val
  dsimp only at h h' hlen ⊢
  have H : Hid (RowSn w (.slice A rs.length C) rs ∧ RowSn w (.slice A' rs.length C') rs) := ⟨h.ls, h'.ls⟩
  clear h h'
  have b0 : Below w.heap.size w ((w.alloc (.cells #[.string name, .int .i64 low, .int .i64 next, .slice A rs.length C] 30)).alloc (.cells #[.string name, .int .i64 low, .int .i64 next, .slice A' rs.length C'] 30)) := ((Below.refl _ _).alloc (Nat.le_refl _) _).alloc (by simp) _
  have c3 : ((w.alloc (.cells #[.string name, .int .i64 low, .int .i64 next, .slice A rs.length C] 30)).alloc (.cells #[.string name, .int .i64 low, .int .i64 next, .slice A' rs.length C'] 30)).cell? ⟨w.heap.size, 3, none⟩ = some (.slice A rs.length C) := by simp [go_sem]
  have c4 : ((w.alloc (.cells #[.string name, .int .i64 low, .int .i64 next, .slice A rs.length C] 30)).alloc (.cells #[.string name, .int .i64 low, .int .i64 next, .slice A' rs.length C'] 30)).cell? ⟨w.heap.size + 1, 3, none⟩ = some (.slice A' rs.length C') := by simp [go_sem]
  have HB : Hid (Below w.heap.size w ((w.alloc (.cells #[.string name, .int .i64 low, .int .i64 next, .slice A rs.length C] 30)).alloc (.cells #[.string name, .int .i64 low, .int .i64 next, .slice A' rs.length C'] 30)) ∧ ((w.alloc (.cells #[.string name, .int .i64 low, .int .i64 next, .slice A rs.length C] 30)).alloc (.cells #[.string name, .int .i64 low, .int .i64 next, .slice A' rs.length C'] 30)).cell? ⟨w.heap.size, 3, none⟩ = some (.slice A rs.length C) ∧ ((w.alloc (.cells #[.string name, .int .i64 low, .int .i64 next, .slice A rs.length C] 30)).alloc (.cells #[.string name, .int .i64 low, .int .i64 next, .slice A' rs.length C'] 30)).cell? ⟨w.heap.size + 1, 3, none⟩ = some (.slice A' rs.length C')) := ⟨b0, c3, c4⟩
  clear b0 c3 c4
  go_enter Try.func11, Try.ntmps11
  go_wp2
  go_loopw [5] (fun i wr => ∃ k : Nat, i = .int .i64 (k : Int) ∧ k ≤ rs.length ∧ Below w.heap.size w wr ∧ wr.cell? ⟨w.heap.size, 3, none⟩ = some (.slice A rs.length C) ∧ wr.cell? ⟨w.heap.size + 1, 3, none⟩ = some (.slice A' rs.length C')) (fun i _ => rs.length - (intOf i).toNat)
  case atStart => exact ⟨0, rfl, by omega, HB.out⟩
  case round =>
    obtain ⟨k, rfl, hk, hb, x3, y3⟩ := hrel
    clear HB
    by_cases hlt : k < rs.length
    · have hlt' : (k : Int) < (rs.length : Int) := by omega
      obtain ⟨b, o, c1, g, e, hs, ⟨q0, q1, q2⟩⟩ := (H.out.1.below hb).at hlt
      obtain ⟨b', o', c2, g', e', hs', ⟨p0, p1, p2⟩⟩ := (H.out.2.below hb).at hlt
      simp only [Value.slice.injEq, true_and] at e e'
      obtain ⟨rfl, rfl⟩ := e
      obtain ⟨rfl, rfl⟩ := e'
      obtain rfl : g = g' := by rw [hs] at hs'; exact Option.some.inj hs'
      have HB : Hid (Below w.heap.size w wr ∧ wr.cell? ⟨w.heap.size, 3, none⟩ = some (.slice (some ⟨b, o, none⟩) rs.length C) ∧ wr.cell? ⟨w.heap.size + 1, 3, none⟩ = some (.slice (some ⟨b', o', none⟩) rs.length C')) := ⟨hb, x3, y3⟩
      have hrn := run_neq_sn g.number g.answer g.code
      clear hs hs' hb
      go_wp2_with fail
      go_quiet (fail)
      go_wp2
      go_roundw
      case rel => exact ⟨k + 1, by go_num, by omega, below_drewN HB.out.1 _, by simp [go_sem, HB.out.2.1], by simp [go_sem, HB.out.2.2]⟩
      case measure => simp [intOf]; omega
    · obtain rfl : k = rs.length := by omega
      have HB : Hid (Below w.heap.size w wr) := hb
      clear hb
      go_wp2
      go_ret
      exact ⟨rfl, HB.out⟩
end Go.Proofs.Ytbnjieppcojckaa
