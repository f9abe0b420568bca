/- Texts of ours put together: GpS0. -/
import Derived.Test.YtkgkahlhekecmaaGreatG36
import Derived.Test.YtkgkahlhekecmaaGreatG43
import Derived.Test.YtkgkahlhekecmaaGreatG46
import Derived.Test.YtkgkahlhekecmaaGreatG17
import Derived.Test.YtkgkahlhekecmaaGreatG30
import Derived.Test.YtkgkahlhekecmaaGreatG44
import Derived.Deep.RegionLaw
namespace Go.Proofs.YtkgkahlhekecmaaGreat
open Go.ChangeShapes Go.WideShapes Go.ChangeAt Go.RowKit
theorem ansGoS_zero (cd : Int) {w w' : World} (h : Below w.heap.size w w') : AnsGoS cd w zG (.returned (.agg #[.string zG.name, .int .i64 zG.day, .slice none 0 0, .slice none 0 0, .slice none 0 0, .slice none 0 0, .slice none 0 0, .slice none 0 0, .string ⟨#[]⟩, .int .i64 0, .int .i64 0, .int .i64 0, .int .i64 0, .int .i64 cd])) w' := by
  obtain ⟨b, f, β, h1, h2⟩ := zG_L w'
  exact ⟨_, _, _, _, _, _, rfl, h1.row, h⟩
/-- The box of the gate that is built, behind the copy. -/
structure C14 (w3 W : World) (B : Array Value) : Prop where
  bel : Below w3.heap.size w3 W
  siz : w3.heap.size + 1 ≤ W.heap.size
  bx : W.heap[w3.heap.size]? = some (.cells B 42)
theorem newP_own (t : ByteArray) (W : World) (b : Nat) : W.ownsRow b 148 3 (newP t, Value.slice none 0 0).2 (newP t, Value.slice none 0 0).1.seen.length (clSns (newP t, Value.slice none 0 0).1.seen) := by
  have hnl : ([] : List Sn) = (newP t).seen := by unfold newP; split <;> rfl
  show W.ownsRow b 148 3 (.slice none 0 0) (newP t).seen.length (clSns (newP t).seen)
  rw [← hnl]
  exact World.ownsRow_nil W b _ _
theorem gpz {g : Gat} {t : ByteArray} {n : Nat} {qs : List (Ptn × Value)} (hq : qs.map Prod.fst = insL g.ptns n (newP t)) (hb : ∀ p ∈ g.ptns, p.name.size ≤ 1048576 ∧ p.seen.length ≤ 1048576) (ht : t.size ≤ 1048576) : ∀ q ∈ qs, q.1.name.size ≤ 9223372036854775807 ∧ q.1.seen.length ≤ 9223372036854775807 := fun q hm => by
  have h1 : q.1 ∈ insL g.ptns n (newP t) := by rw [← hq]; exact List.mem_map_of_mem hm
  unfold insL at h1
  rcases List.mem_append.1 h1 with h | h
  · have := hb _ (List.mem_of_mem_take h)
    omega
  rcases List.mem_cons.1 h with h | h
  · rw [h]
    unfold newP
    split
    · exact ⟨by dsimp only; omega, Nat.zero_le _⟩
    · exact ⟨Nat.zero_le _, Nat.zero_le _⟩
  · have := hb _ (List.mem_of_mem_drop h)
    omega
theorem C14.below {w3 W W' : World} {B : Array Value} (h : C14 w3 W B) (hb : Below (w3.heap.size + 1) W W') : C14 w3 W' B :=
  ⟨h.bel.trans (hb.mono (Nat.le_succ _)), Nat.le_trans h.siz hb.size, (hb.block _ (Nat.lt_succ_self _)).trans h.bx⟩
theorem C14.set {w3 W : World} {B B' : Array Value} (h : C14 w3 W B) (i : Nat) (x : Value) (h' : (W.setCell ⟨w3.heap.size, i, none⟩ x).heap[w3.heap.size]? = some (.cells B' 42)) : C14 w3 (W.setCell ⟨w3.heap.size, i, none⟩ x) B' :=
  ⟨h.bel.setCell (Nat.le_refl _) x, by simpa using h.siz, h'⟩
end Go.Proofs.YtkgkahlhekecmaaGreat
