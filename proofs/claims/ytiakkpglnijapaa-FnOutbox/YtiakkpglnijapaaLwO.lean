/- Contract of the laws' lwOuts. -/
import Derived.Test.YtiakkpglnijapaaRowOu
import Derived.Laws.StructEq
import Derived.Deep.RegionHeld3
import Derived.WalkSmall
namespace Go.Proofs.Ytiakkpglnijapaa
open Go.ChangeShapes Go.WideShapes Go.ChangeAt Go.RowKit
theorem outUnder : Try.prog.underlying 25 = some (.struct (Try.prog.fieldsOf 25)) := by kernel_rfl
set_option maxRecDepth 100000 in
theorem run_neq_out (l : OutR) (w : World) : (binOp .neq 25 (.agg #[.string l.partner, .int .i64 l.number, .string l.text, .int .i64 l.tries, .int .i64 l.due]) (.agg #[.string l.partner, .int .i64 l.number, .string l.text, .int .i64 l.tries, .int .i64 l.due])).run Try.prog w = .ok (.bool false) w := by
  have hF : Try.prog.fieldsOf 25 = (match Try.prog.underlying 25 with | some (.struct fs) => fs | _ => #[]) := rfl
  rw [Try.underlying25] at hF
  rw [run_neq_struct, run_equalIn_struct _ _ _ _ _ outUnder (by kernel_rfl), hF]
  simp [go_sem, Op.eqFields]
set_option maxHeartbeats 4000000 in
theorem lwOuts_any (v v' : Value) (rs : List OutR) (w : World) (h : RowOu w v rs) (h' : RowOu w v' rs) :
    Calls Try.prog 10 #[v, v'] w fun e w' => e = .returned (.bool true) ∧ Below w.heap.size w w' := by
  have hlen := h.len
  obtain ⟨a, cap, rfl⟩ := h.val
  obtain ⟨a', cap', rfl⟩ := h'.val
  have H : Hid (RowOu w (.slice a rs.length cap) rs ∧ RowOu w (.slice a' rs.length cap') rs) := ⟨h, h'⟩
  clear h h'
  go_enter Try.func10, Try.ntmps10
  go_wp2
  go_loopw [5] (fun i wr => ∃ k : Nat, i = .int .i64 (k : Int) ∧ k ≤ rs.length ∧ Below w.heap.size w wr) (fun i _ => rs.length - (intOf i).toNat)
  case atStart => exact ⟨0, rfl, by omega, Below.refl _ _⟩
  case round =>
    obtain ⟨k, rfl, hk, hb⟩ := hrel
    by_cases hlt : k < rs.length
    · have hlt' : (k : Int) < (rs.length : Int) := by omega
      obtain ⟨b, o, c1, g, e, hs, ⟨q0, q1, q2, q3, q4⟩, _⟩ := (H.out.1.below hb).at hlt
      obtain ⟨b', o', c2, g', e', hs', ⟨p0, p1, p2, p3, p4⟩, _⟩ := (H.out.2.below hb).at hlt
      simp only [Value.slice.injEq, true_and] at e e'
      obtain ⟨rfl, rfl⟩ := e
      obtain ⟨rfl, rfl⟩ := e'
      obtain rfl : g = g' := by rw [hs] at hs'; exact Option.some.inj hs'
      have HB : Hid (Below w.heap.size w wr.drew) := hb.drew
      have hnq := run_neq_out g
      clear hs hs' hb
      go_wp2_with fail
      go_region_held3 (fun W => (W.cell? ⟨b, o + k * 5, none⟩ = some (.string g.partner) ∧ W.cell? ⟨b, o + k * 5 + 1, none⟩ = some (.int .i64 g.number) ∧ W.cell? ⟨b, o + k * 5 + 2, none⟩ = some (.string g.text) ∧ W.cell? ⟨b, o + k * 5 + 3, none⟩ = some (.int .i64 g.tries) ∧ W.cell? ⟨b, o + k * 5 + 4, none⟩ = some (.int .i64 g.due)) ∧ W.cell? ⟨b', o' + k * 5, none⟩ = some (.string g.partner) ∧ W.cell? ⟨b', o' + k * 5 + 1, none⟩ = some (.int .i64 g.number) ∧ W.cell? ⟨b', o' + k * 5 + 2, none⟩ = some (.string g.text) ∧ W.cell? ⟨b', o' + k * 5 + 3, none⟩ = some (.int .i64 g.tries) ∧ W.cell? ⟨b', o' + k * 5 + 4, none⟩ = some (.int .i64 g.due)) (go_keep) (fail)
      rename_i hHeld
      clear hHeld
      go_wp2
      go_roundw
      case rel => exact ⟨k + 1, by go_num, by omega, HB.out⟩
      case measure => simp [intOf]; omega
    · obtain rfl : k = rs.length := by omega
      have HB : Hid (Below w.heap.size w wr) := hb
      clear hb
      go_wp2
      go_ret
      exact ⟨rfl, HB.out⟩
end Go.Proofs.Ytiakkpglnijapaa
