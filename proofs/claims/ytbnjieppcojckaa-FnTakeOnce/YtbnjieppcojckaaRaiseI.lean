/- Contracts of impl's window.raise and window.put. -/
import Derived.Test.YtbnjieppcojckaaAskI
import Derived.Maps.RangeWalk
namespace Go.Proofs.Ytbnjieppcojckaa
open Go.ChangeShapes Go.WideShapes Go.ChangeAt Go.RowKit
/-- All that lay in w lies in w' as it lay, but for two blocks. -/
structure KeepT (B b : Nat) (w w' : World) : Prop where
  os : w'.os = w.os
  tape : w'.tape = w.tape
  output : w'.output = w.output
  size : w.heap.size ≤ w'.heap.size
  block : ∀ k, k < w.heap.size → k ≠ B → k ≠ b → w'.heap[k]? = w.heap[k]?
theorem KeepT.below {B b N : Nat} {w w' : World} (h : KeepT B b w w') (h1 : N ≤ B) (h2 : N ≤ b) (h3 : N ≤ w.heap.size) : Below N w w' :=
  ⟨h.os, h.tape, h.output, h.size, fun k hk => h.block k (by omega) (by omega) (by omega)⟩
/-- What is there of the list while the map is gone through: those that may stay, and those still to come. -/
def swp (low : Int) (left : Lit → Bool) (l : List Sn) : List Sn := l.filter fun s => decide (low ≤ s.number) || left (.int .i64 s.number)
theorem swp_start {low : Int} {l : List Sn} : swp low (Maps.has (mapD l)) l = l := by
  refine List.filter_eq_self.2 fun s hs => ?_
  have : Maps.has (mapD l) (.int .i64 s.number) = true := by
    rw [mapD, Maps.has_eq, List.any_map]
    refine List.any_eq_true.2 ⟨s, hs, ?_⟩
    simp [snKey, same_key]
  rw [this, Bool.or_true]
theorem swp_end {low : Int} {left : Lit → Bool} {l : List Sn} (h : ∀ kl, left kl = false) : swp low left l = l.filter fun s => decide (low ≤ s.number) := by
  unfold swp
  congr 1
  funext s
  rw [h, Bool.or_false]
theorem swp_del {low x : Int} {left : Lit → Bool} {l : List Sn} (hx : x < low) : (mapD (swp low left l)).del (.int .i64 x) = mapD (swp low (fun z => left z && !z.sameKey (.int .i64 x)) l) := by
  rw [del_map]
  congr 1
  unfold swp
  rw [List.filter_filter]
  apply List.filter_congr
  intro s _
  dsimp only
  rw [same_key]
  by_cases h : s.number = x
  · have : ¬ low ≤ s.number := by omega
    simp [h, hx]
  · simp [h]
theorem swp_stay {low x : Int} {left : Lit → Bool} {l : List Sn} (hx : ¬ x < low) : swp low left l = swp low (fun z => left z && !z.sameKey (.int .i64 x)) l := by
  unfold swp
  apply List.filter_congr
  intro s _
  dsimp only
  rw [same_key]
  by_cases h : s.number = x
  · have : low ≤ s.number := by omega
    simp [this]
  · simp [h]
theorem low_filter {low low' : Int} {l : List Sn} (h : ∀ x ∈ l, low ≤ x.number) (hl : low' ≤ low) : l.filter (fun s => decide (low' ≤ s.number)) = l := by
  refine List.filter_eq_self.2 fun s hs => ?_
  have := h s hs
  simp
  omega
set_option maxRecDepth 100000 in
set_option maxHeartbeats 4000000 in
theorem raise_any (low low' : Int) (B b n : Nat) (l : List Sn) (w : World) (hB : w.heap[B]? = some (.cells #[.int .i64 low, .map (some b)] 60)) (h : w.ownsMap Try.prog 2 rdSn b n (mapD l)) (hl : ∀ x ∈ l, low ≤ x.number) : Calls Try.prog 39 #[.pointer (some ⟨B, 0, none⟩), .int .i64 low'] w fun e w' => e = .returned (.tuple #[]) ∧ w'.heap[B]? = some (.cells #[.int .i64 (max low low'), .map (some b)] 60) ∧ w'.ownsMap Try.prog 2 rdSn b n (mapD (l.filter fun s => decide (low' ≤ s.number))) ∧ KeepT B b w w' := by
  have y0 : w.cell? ⟨B, 0, none⟩ = some (.int .i64 low) := by simp [World.cell?, hB]
  have y1 : w.cell? ⟨B, 1, none⟩ = some (.map (some b)) := by simp [World.cell?, hB]
  have yf : ∀ o, w.frozen? ⟨B, o, none⟩ = false := fun o => by simp [World.frozen?, hB]
  have hne : b ≠ B := by
    intro e
    obtain ⟨es, clock, q1, _⟩ := h
    rw [e, hB] at q1
    cases q1
  by_cases hlt : low' ≤ low
  · have HH : Hid (w.heap[B]? = some (.cells #[.int .i64 (max low low'), .map (some b)] 60) ∧ w.ownsMap Try.prog 2 rdSn b n (mapD (l.filter fun s => decide (low' ≤ s.number)))) := by
      refine ⟨?_, by rw [low_filter hl hlt]; exact h⟩
      rw [hB, show max low low' = low by omega]
    clear h hB hl
    go_enter Try.func39, Try.ntmps39
    go_wp2
    exact bodyPost_ret (v := .tuple #[]) (by simp [results, Try.results39]) rfl ⟨rfl, HH.out.1, HH.out.2, rfl, rfl, rfl, Nat.le_refl _, fun _ _ _ _ => rfl⟩
  · have hs1 : (w.setCell ⟨B, 0, none⟩ (.int .i64 low')).heap[B]? = some (.cells #[.int .i64 low', .map (some b)] 60) := by
      simp [World.setCell, Array.getElem?_modify, hB]
    have hown : (w.setCell ⟨B, 0, none⟩ (.int .i64 low')).ownsMap Try.prog 2 rdSn b n (mapD l) := by
      obtain ⟨es, clock, q1, q2, q3, q4⟩ := h
      exact ⟨es, clock, (Below.heap_setCell _ _ _ _ (show b ≠ B from hne)).trans q1, q2, q3, q4⟩
    have e1 : (w.setCell ⟨B, 0, none⟩ (.int .i64 low')).cell? ⟨B, 1, none⟩ = some (.map (some b)) := by simp [World.cell?, hs1]
    have hsz : (w.setCell ⟨B, 0, none⟩ (.int .i64 low')).heap.size = w.heap.size := by simp [World.setCell]
    have hB1 : B < w.heap.size := (Array.getElem?_eq_some_iff.1 hB).1
    have HW : Hid (w.heap[B]? = some (.cells #[.int .i64 low, .map (some b)] 60) ∧ (w.setCell ⟨B, 0, none⟩ (.int .i64 low')).heap[B]? = some (.cells #[.int .i64 low', .map (some b)] 60)) := ⟨hB, hs1⟩
    clear hB h hs1
    go_enter Try.func39, Try.ntmps39
    go_wp2_with (first | (at_range; refine wpList_range_own _ rfl _ 58 rfl 2 34 i64_keyed Try.underlying58 _ b n _ rfl hown ?_; intro w0 hrg0 hg0 hs0) | go_in)
    rw [hsz] at hrg0 hs0
    try rw [hsz]
    have HH : Hid (w0.ranges Try.prog 2 rdSn b w.heap.size n (mapD l) (Maps.has (mapD l)) (Maps.size (mapD l)) ∧ (w.setCell ⟨B, 0, none⟩ (.int .i64 low')).grownBy w0 none) := ⟨hrg0, hg0⟩
    clear hrg0 hg0 hown e1
    try go_frame
    go_loopw [4] (fun _ wr => ∃ (left : Lit → Bool) (cnt : Nat), wr.ranges Try.prog 2 rdSn b w.heap.size n (mapD (swp low' left l)) left cnt ∧ (w.setCell ⟨B, 0, none⟩ (.int .i64 low')).grownBy wr (some b)) (fun _ wr => wr.rangeLeft b w.heap.size)
    case atStart => exact ⟨_, _, by rw [swp_start]; exact HH.out.1, HH.out.2.but _⟩
    case round =>
      obtain ⟨left, cnt, hrg, hgw⟩ := hrel
      have kB : wr.heap[B]? = some (.cells #[.int .i64 low', .map (some b)] 60) := (hgw.block B (by rw [hsz]; exact hB1) (by simp; omega)).trans HW.out.2
      go_wp2_with (first | (at_next; refine wpList_next_ranges _ rfl _ rfl 2 i64_keyed rdSn (Value.int .i64) sv (fun key kl hkey => by obtain ⟨x, rfl, _⟩ := Maps.keyOf_int_inv Try.underlying2 hkey; exact ⟨x, rfl⟩) (fun v y hv => by obtain ⟨c, rfl, _⟩ := rdSn_inv hv; exact ⟨c, rfl⟩) b w.heap.size n _ _ _ rfl hrg ?_ ?_) | go_in)
      · intro _ hl0
        have HE : Hid (wr.ownsMap Try.prog 2 rdSn b n (mapD (l.filter fun s => decide (low' ≤ s.number))) ∧ wr.heap[B]? = some (.cells #[.int .i64 low', .map (some b)] 60) ∧ (w.setCell ⟨B, 0, none⟩ (.int .i64 low')).grownBy wr (some b)) := ⟨by rw [← swp_end hl0]; exact hrg.owns, kB, hgw⟩
        clear hrg hgw kB hl0
        go_wp2
        go_end0
        refine ⟨rfl, ?_, HE.out.1, HE.out.2.2.os, HE.out.2.2.tape, HE.out.2.2.output, by have := HE.out.2.2.size; rw [hsz] at this; exact this, fun k hk h1 h2 => (HE.out.2.2.block k (by rw [hsz]; exact hk) (by simp; omega)).trans (Below.heap_setCell _ _ _ _ (show k ≠ B from h1))⟩
        rw [HE.out.2.1, show max low low' = low' by omega]
      · intro x c kl yd yp w1 cnt1 hkey hlx hv hat hrg1 hlt1 hg1 hs1 hen
        obtain ⟨x', ex, rfl, hwx⟩ := Maps.keyOf_int_inv Try.underlying2 hkey
        cases ex
        have hgw1 := hgw.andThen hg1 (fun j hj => by cases hj; exact Or.inl (by rw [hsz]; exact Nat.le_refl _))
        have kB1 : w1.heap[B]? = some (.cells #[.int .i64 low', .map (some b)] 60) := (hgw1.block B (by rw [hsz]; exact hB1) (by simp; omega)).trans HW.out.2
        have z1 : w1.cell? ⟨B, 1, none⟩ = some (.map (some b)) := by simp [World.cell?, kB1]
        by_cases hx : x < low'
        · have HG : Hid ((w.setCell ⟨B, 0, none⟩ (.int .i64 low')).grownBy w1 (some b) ∧ wr.ranges Try.prog 2 rdSn b w.heap.size n (mapD (swp low' left l)) left cnt) := ⟨hgw1, hrg⟩
          clear hgw hgw1 hg1 hat hv hrg kB kB1
          go_wp2_with (first | (at_delete; refine wpList_delete_ranges _ rfl _ _ 58 2 rfl 34 i64_keyed Try.underlying58 rdSn b w.heap.size n _ _ _ rfl hrg1 _ _ rfl (Maps.keyOf_int_mk Try.underlying2 hwx) ?_; intro w2 cnt2 hrg2 hle hturn; go_frame) | go_in)
          rw [Maps.strike_twice, swp_del hx] at hrg2
          go_roundw
          case rel => exact ⟨_, cnt2, hrg2, HG.out.1.andThen hturn.grown (fun j hj => by cases hj; exact Or.inr rfl)⟩
          case measure => rw [hrg2.left_eq, HG.out.2.left_eq]; omega
        · have HG : Hid ((w.setCell ⟨B, 0, none⟩ (.int .i64 low')).grownBy w1 (some b) ∧ wr.ranges Try.prog 2 rdSn b w.heap.size n (mapD (swp low' left l)) left cnt) := ⟨hgw1, hrg⟩
          clear hgw hgw1 hg1 hat hv hrg kB kB1
          rw [swp_stay hx] at hrg1
          go_wp2
          go_roundw
          case rel => exact ⟨_, cnt1, hrg1, HG.out.1⟩
          case measure => rw [hrg1.left_eq, HG.out.2.left_eq]; exact hlt1
end Go.Proofs.Ytbnjieppcojckaa
