/- The measures of Seen: what they let pass is bounded. -/
import Derived.Test.YtnnfkifjkmodpaaRowSn
namespace Go.Proofs.Ytnnfkifjkmodpaa
open Go.ChangeShapes Go.WideShapes Go.ChangeAt Go.RowKit
set_option maxHeartbeats 1000000 in
theorem szSns_any (v : Value) (rs : List Sn) (left : Int) (w : World) (h : RowSn w v rs) (hl : 0 ≤ left ∧ left ≤ 1048576) :
    Calls Try.prog 23 #[v, .int .i64 left] w fun e w' => ∃ q : Int, e = .returned (.int .i64 q) ∧ (q = -1 ∨ (0 ≤ q ∧ q ≤ left ∧ BdSn left.toNat rs)) ∧ Below w.heap.size w w' := by
  have hlen := h.len
  obtain ⟨a, cap, rfl⟩ := h.val
  have H : Hid (RowSn w (.slice a rs.length cap) rs) := h
  clear h
  by_cases hn : left < (rs.length : Int)
  · have hn' : left - (rs.length : Int) < 0 := by omega
    go_enter Try.func23, Try.ntmps23
    go_wp2
    go_ret
    exact ⟨_, rfl, .inl rfl, Below.refl _ _⟩
  · have hn' : ¬ left - (rs.length : Int) < 0 := by omega
    go_enter Try.func23, Try.ntmps23
    go_wp2
    go_ret
    exact ⟨_, rfl, .inr ⟨by omega, by omega, show rs.length ≤ left.toNat by omega⟩, Below.refl _ _⟩
end Go.Proofs.Ytnnfkifjkmodpaa
