/- What it is that a segment is right; the model's l02Empty. -/
import Derived.Test.YtphgheojfnlgjaaDoorPartB
namespace Go.Proofs.YtphgheojfnlgjaaDoor
open Go.ChangeShapes Go.WideShapes Go.ChangeAt Go.RowKit
def isE (s : ByteArray) : Bool := s.toList.isEmpty
/-- Are there several, and is the last one empty? -/
def endsE (ss : List ByteArray) : Bool := decide (1 < ss.length) && isE (ss[ss.length - 1]?.getD ⟨#[]⟩)
/-- Is the last one one empty text? -/
def blank1 (ss : List ByteArray) : Bool := decide (ss.length = 1) && isE (ss[0]?.getD ⟨#[]⟩)
def blankB (es : List (List ByteArray)) : Bool := decide (0 < es.length) && blank1 (es[es.length - 1]?.getD [])
def elB (ss : List ByteArray) : Bool := decide (1 ≤ ss.length) && (decide (ss.length ≤ 4) && (!endsE ss && ss.all partB))
def rightG (tag : ByteArray) (es : List (List ByteArray)) : Bool := tagB tag && (decide (es.length ≤ 10) && (!blankB es && es.all elB))
theorem all_yes {α : Type} {p : α → Bool} {l : List α} (h : ∀ (j : Nat) (x : α), l[j]? = some x → p x = true) : l.all p = true := by
  rw [List.all_eq_true]
  intro x hx
  obtain ⟨j, hj⟩ := List.mem_iff_getElem?.1 hx
  exact h j x hj
theorem all_no {α : Type} {p : α → Bool} {l : List α} {k : Nat} {x : α} (h : l[k]? = some x) (hx : p x = false) : l.all p = false := by
  rw [List.all_eq_false]
  exact ⟨x, List.mem_of_getElem? h, by rw [hx]; simp⟩
set_option maxHeartbeats 1000000 in
theorem l02Empty_any (v : Value) (ss : List ByteArray) (w : World) (h : RowS w v ss) (hl : ss.length ≤ 1048576) : Calls Tryd.prog 33 #[.agg #[v]] w fun e w' => e = .returned (.bool (blank1 ss)) ∧ Below w.heap.size w w' := by
  obtain ⟨a, cap, rfl⟩ := h.val
  by_cases h1 : ss.length = 1
  · have h1' : ((ss.length : Int) == 1) = true := by rw [beq_iff_eq]; omega
    have hk : 0 < ss.length := by omega
    obtain ⟨b, o, c1, s, e, hs, hc, hsz⟩ := (h.below ((Below.refl _ _).alloc (Nat.le_refl _) (.cells #[.slice a ss.length cap] 55))).at hk
    simp only [Value.slice.injEq, true_and] at e
    obtain ⟨rfl, rfl⟩ := e
    have hB : blank1 ss = isE s := by unfold blank1; rw [hs]; simp [h1]
    rw [hB]
    clear hB hs h
    have hk' : (0 : Int) < (ss.length : Int) := by omega
    rw [Nat.add_zero] at hc
    clear h1 hk
    go_enter Tryd.func33, Tryd.ntmps33
    go_wp2_with fail
    first | (go_quiet (fail); go_wp2) | go_wp2
    go_ret
    exact ⟨rfl, by first | exact below_drewN ((Below.refl _ _).alloc (Nat.le_refl _) _) _ | exact (Below.refl _ _).alloc (Nat.le_refl _) _⟩
  · have h1' : ((ss.length : Int) == 1) = false := by rw [beq_eq_false_iff_ne]; omega
    have hB : blank1 ss = false := by unfold blank1; simp [h1]
    rw [hB]
    clear h
    go_enter Tryd.func33, Tryd.ntmps33
    go_wp2_with fail
    first | (go_quiet (fail); go_wp2) | go_wp2
    go_ret
    exact ⟨rfl, by first | exact below_drewN ((Below.refl _ _).alloc (Nat.le_refl _) _) _ | exact (Below.refl _ _).alloc (Nat.le_refl _) _⟩
end Go.Proofs.YtphgheojfnlgjaaDoor
