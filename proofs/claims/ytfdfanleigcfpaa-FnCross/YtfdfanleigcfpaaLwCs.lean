/- Contract of the laws' lwCrosses: two lists of crosses that read as the same are told to be. -/
import Derived.Test.YtfdfanleigcfpaaRowCs
import Derived.Laws.StructEq
import Derived.Deep.RegionHeld3
import Derived.Deep.QuietTactic
import Derived.BigQuiet
import Derived.BigRegion
import Derived.WalkSmall
namespace Go.Proofs.Ytfdfanleigcfpaa
open Go.ChangeShapes Go.WideShapes Go.ChangeAt Go.RowKit
theorem crsUnder : Try.prog.underlying 25 = some (.struct (Try.prog.fieldsOf 25)) := by kernel_rfl
theorem run_neq_crs (a b c : ByteArray) (w : World) : (binOp .neq 25 (.agg #[.string a, .string b, .string c]) (.agg #[.string a, .string b, .string c])).run Try.prog w = .ok (.bool false) w := by
  have hF : Try.prog.fieldsOf 25 = (match Try.prog.underlying 25 with | some (.struct fs) => fs | _ => #[]) := rfl
  rw [Try.underlying25] at hF
  rw [run_neq_struct, run_equalIn_struct _ _ _ _ _ crsUnder (by kernel_rfl), hF]
  simp [go_sem, Op.eqFields]
set_option maxRecDepth 100000 in
set_option maxHeartbeats 4000000 in
theorem lwCrosses_any (rs : List Crs) (v v' : Value) (w : World) (h : RowCs w v rs) (h' : RowCs w v' rs) :
    Calls Try.prog 8 #[v, v'] w fun e w' => e = .returned (.bool true) ∧ Below w.heap.size w w' := by
  have hlen := h.len
  obtain ⟨A, C, rfl⟩ := h.val
  obtain ⟨A', C', rfl⟩ := h'.val
  have H : Hid (RowCs w (.slice A rs.length C) rs ∧ RowCs w (.slice A' rs.length C') rs) := ⟨h, h'⟩
  clear h h'
  go_enter Try.func8, Try.ntmps8
  go_wp2
  go_loopw [5] (fun i wr => ∃ k : Nat, i = .int .i64 (k : Int) ∧ k ≤ rs.length ∧ Below w.heap.size w wr) (fun i _ => rs.length - (intOf i).toNat)
  case atStart => exact ⟨0, rfl, by omega, Below.refl _ _⟩
  case round =>
    obtain ⟨k, rfl, hk, hb⟩ := hrel
    by_cases hlt : k < rs.length
    · have hlt' : (k : Int) < (rs.length : Int) := by omega
      obtain ⟨b, o, c1, g, e, hs, ⟨q0, q1, q2⟩, _⟩ := (H.out.1.below hb).at hlt
      obtain ⟨b', o', c2, g', e', hs', ⟨p0, p1, p2⟩, _⟩ := (H.out.2.below hb).at hlt
      simp only [Value.slice.injEq, true_and] at e e'
      obtain ⟨rfl, rfl⟩ := e
      obtain ⟨rfl, rfl⟩ := e'
      obtain rfl : g = g' := by rw [hs] at hs'; exact Option.some.inj hs'
      have HB : Hid (Below w.heap.size w wr) := hb
      have hrn := run_neq_crs g.partner g.theirs g.own
      clear hs hs' hb
      go_wp2_with fail
      go_quiet (fail)
      go_wp2
      go_roundw
      case rel => exact ⟨k + 1, by go_num, by omega, below_drewN HB.out _⟩
      case measure => simp [intOf]; omega
    · obtain rfl : k = rs.length := by omega
      have HB : Hid (Below w.heap.size w wr) := hb
      clear hb
      go_wp2
      go_ret
      exact ⟨rfl, HB.out⟩
end Go.Proofs.Ytfdfanleigcfpaa
