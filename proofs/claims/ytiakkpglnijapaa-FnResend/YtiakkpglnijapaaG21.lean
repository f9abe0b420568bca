/- Texts of ours put together: OuPl. -/
import Derived.Test.YtiakkpglnijapaaG20
namespace Go.Proofs.Ytiakkpglnijapaa
open Go.ChangeShapes Go.WideShapes Go.ChangeAt Go.RowKit
/-- What is looked for. -/
def tgtO (p : ByteArray) (n : Int) : OutR := ⟨p, n, ⟨#[]⟩, 0, 0⟩
set_option maxHeartbeats 2000000 in
theorem place_any (v : Value) (rs : List OutR) (p : ByteArray) (z : Int) (w : World) (h : RowOu w v rs) (hl : rs.length ≤ 1000) (hs : rs.Pairwise fun a b => befO a b = true) :
    Calls Try.prog 25 #[v, .string p, .int .i64 z] w fun e w' => e = .returned (.tuple #[.int .i64 (plcO rs (tgtO p z) : Nat), .bool ((rs[plcO rs (tgtO p z)]?).any fun x => decide (ocmp x (tgtO p z) = 0))]) ∧ Below w.heap.size w w' := by
  obtain ⟨A, Cp, rfl⟩ := h.val
  have HS : Hid (RowOu w (.slice A rs.length Cp) rs ∧ rs.Pairwise fun a b => befO a b = true) := ⟨h, hs⟩
  clear h hs
  obtain ⟨n, hn⟩ : ∃ n, n = plcO rs (tgtO p z) := ⟨_, rfl⟩
  obtain ⟨q, hq⟩ : ∃ q, q = (rs[plcO rs (tgtO p z)]?).any fun x => decide (ocmp x (tgtO p z) = 0) := ⟨_, rfl⟩
  rw [← hq, ← hn]
  have HQ : Hid (n = plcO rs (tgtO p z) ∧ q = (rs[plcO rs (tgtO p z)]?).any fun x => decide (ocmp x (tgtO p z) = 0)) := ⟨hn, hq⟩
  clear hn hq
  have QS := search_any (.slice A rs.length Cp) rs (tgtO p z) w HS.out.1 hl HS.out.2
  rw [← HQ.out.2, ← HQ.out.1] at QS
  simp only [tgtO] at QS
  go_enter Try.func25, Try.ntmps25
  go_wp2_with fail
  refine QS.mono ?_
  rintro e w1 ⟨rfl, hb1⟩
  have H1 : Hid (Below w.heap.size w w1) := hb1
  clear hb1 QS
  go_wp2
  exact bodyPost_ret (v := .tuple #[.int .i64 (n : Int), .bool q]) (by simp [results, Try.results25, go_sem]) rfl ⟨rfl, H1.out⟩
end Go.Proofs.Ytiakkpglnijapaa
