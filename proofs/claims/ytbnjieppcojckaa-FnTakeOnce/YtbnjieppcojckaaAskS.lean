/- Contracts of the model's PartnerAsk. -/
import Derived.Test.YtbnjieppcojckaaPnS
import Derived.Test.YtbnjieppcojckaaAskI
namespace Go.Proofs.Ytbnjieppcojckaa
open Go.ChangeShapes Go.WideShapes Go.ChangeAt Go.RowKit
/-- What l07Find tells: a place of that number, or -1. -/
def FindO (l : List Sn) (k z : Int) : Prop := (z = -1 ∧ l.find? (fun x => decide (x.number = k)) = none) ∨ ∃ (j : Nat) (s : Sn), z = (j : Int) ∧ l[j]? = some s ∧ s.number = k ∧ l.find? (fun x => decide (x.number = k)) = some s
theorem find_drop {l : List Sn} {k : Int} : ∀ {j : Nat}, (∀ (i : Nat) (g : Sn), i < j → l[i]? = some g → g.number ≠ k) → l.find? (fun x => decide (x.number = k)) = (l.drop j).find? (fun x => decide (x.number = k))
  | 0, _ => by simp
  | j + 1, h => by
    rw [find_drop (j := j) (fun i g hi hg => h i g (by omega) hg)]
    cases hg : l[j]? with
    | none =>
      have hle : l.length ≤ j := by simpa using hg
      rw [List.drop_eq_nil_of_le hle, List.drop_eq_nil_of_le (by omega)]
    | some g =>
      rw [drop_at hg, List.find?_cons_of_neg (by simpa using h j g (by omega) hg)]
set_option maxHeartbeats 4000000 in
theorem l07Find_any (p : Ptn) (v : Value) (k : Int) (w : World) (h : RPt w v p) : Calls Try.prog 31 #[.agg #[.string p.name, .int .i64 p.low, .int .i64 p.next, v], .int .i64 k] w fun e w' => ∃ z : Int, e = .returned (.int .i64 z) ∧ FindO p.seen k z ∧ Below w.heap.size w w' := by
  obtain ⟨name, low, next, rs⟩ := p
  have hlen := h.ls.len
  obtain ⟨A, C, rfl⟩ := h.ls.val
  dsimp only at h hlen ⊢
  have b0 : Below w.heap.size w (w.alloc (.cells #[.string name, .int .i64 low, .int .i64 next, .slice A rs.length C] 30)) := (Below.refl _ _).alloc (Nat.le_refl _) _
  have HR : Hid (RowSn (w.alloc (.cells #[.string name, .int .i64 low, .int .i64 next, .slice A rs.length C] 30)) (.slice A rs.length C) rs ∧ Below w.heap.size w (w.alloc (.cells #[.string name, .int .i64 low, .int .i64 next, .slice A rs.length C] 30))) := ⟨h.ls.below b0, b0⟩
  clear h b0
  go_enter Try.func31, Try.ntmps31
  go_wp2
  go_loopw [5] (fun i wr => ∃ j : Nat, i = .int .i64 (j : Int) ∧ j ≤ rs.length ∧ (∀ (i : Nat) (g : Sn), i < j → rs[i]? = some g → g.number ≠ k) ∧ wr = w.alloc (.cells #[.string name, .int .i64 low, .int .i64 next, .slice A rs.length C] 30)) (fun i _ => rs.length - (intOf i).toNat)
  case atStart => exact ⟨0, rfl, by omega, fun i g hi => by omega, rfl⟩
  case round =>
    obtain ⟨j, rfl, hj, hA, rfl⟩ := hrel
    have HA : Hid (∀ (i : Nat) (g : Sn), i < j → rs[i]? = some g → g.number ≠ k) := hA
    clear hA
    by_cases hlt : j < rs.length
    · have hlt' : (j : Int) < (rs.length : Int) := by omega
      obtain ⟨b, o, cap', g, e, hs, ⟨q0, q1, q2⟩⟩ := HR.out.1.at hlt
      simp only [Value.slice.injEq, true_and] at e
      obtain ⟨rfl, rfl⟩ := e
      have HS : Hid (rs[j]? = some g) := hs
      clear hs
      obtain ⟨num, ans, cod⟩ := g
      dsimp only at q0 q1 q2
      by_cases he : num = k
      · subst he
        go_wp2
        go_ret
        refine ⟨_, rfl, .inr ⟨j, ⟨num, ans, cod⟩, rfl, HS.out, rfl, ?_⟩, HR.out.2⟩
        rw [find_drop HA.out, drop_at HS.out, List.find?_cons_of_pos (by simp)]
      · have HN : Hid (num ≠ k) := he
        have he1 : (num == k) = false := by simpa using he
        go_wp2
        go_roundw
        case rel =>
          refine ⟨j + 1, by go_num, by omega, fun i g hi hg => ?_, by trivial⟩
          rcases Nat.lt_or_ge i j with q | q
          · exact HA.out i g q hg
          · obtain rfl : i = j := by omega
            rw [HS.out] at hg
            cases hg
            exact HN.out
        case measure => simp [intOf]; omega
    · obtain rfl : j = rs.length := by omega
      go_wp2
      go_ret
      refine ⟨_, rfl, .inl ⟨rfl, ?_⟩, HR.out.2⟩
      rw [find_drop HA.out, List.drop_length]
      rfl
set_option maxHeartbeats 4000000 in
theorem ptAsk_spec (p : Ptn) (v : Value) (k : Int) (w : World) (h : RPt w v p) : Calls Try.prog 29 #[.agg #[.string p.name, .int .i64 p.low, .int .i64 p.next, v], .int .i64 k] w fun e w' => e = .returned (.int .i64 (askZ p k)) ∧ Below w.heap.size w w' := by
  obtain ⟨A, C, hv⟩ := h.ls.val
  subst hv
  have b0 : Below w.heap.size w (w.alloc (.cells #[.string p.name, .int .i64 p.low, .int .i64 p.next, .slice A p.seen.length C] 30)) := (Below.refl _ _).alloc (Nat.le_refl _) _
  have h0 := h.below b0
  have z0 : (w.alloc (.cells #[.string p.name, .int .i64 p.low, .int .i64 p.next, .slice A p.seen.length C] 30)).heap[w.heap.size]? = some (.cells #[.string p.name, .int .i64 p.low, .int .i64 p.next, .slice A p.seen.length C] 30) := World.alloc_heap_new _ _
  go_enter Try.func29, Try.ntmps29
  go_wp2_with fail
  refine (ptRight_spec p _ _ h0).mono ?_
  rintro e w1 ⟨rfl, hb1⟩
  have HA : Hid (Below w.heap.size w w1 ∧ RPt w1 (.slice A p.seen.length C) p) := ⟨b0.trans (hb1.mono (by simp)), h0.below hb1⟩
  have blk := (hb1.block w.heap.size (by simp)).trans z0
  have x0 : w1.cell? ⟨w.heap.size, 0, none⟩ = some (.string p.name) := by simp [World.cell?, blk]
  have x1 : w1.cell? ⟨w.heap.size, 1, none⟩ = some (.int .i64 p.low) := by simp [World.cell?, blk]
  have x2 : w1.cell? ⟨w.heap.size, 2, none⟩ = some (.int .i64 p.next) := by simp [World.cell?, blk]
  have x3 : w1.cell? ⟨w.heap.size, 3, none⟩ = some (.slice A p.seen.length C) := by simp [World.cell?, blk]
  clear hb1 h h0 b0 z0 blk
  cases hr : ptnB p
  · go_wp2
    go_ret
    exact ⟨ret_i64 (by simp [askZ, hr]), HA.out.1⟩
  go_wp2_with fail
  refine (l01Control_any k _).mono ?_
  rintro e w2 ⟨rfl, rfl⟩
  cases hc : ctlB k
  · go_wp2
    go_ret
    exact ⟨ret_i64 (by simp [askZ, hc]), HA.out.1⟩
  have HK : Hid (askZ p k = kndZ p.low p.seen k) := by simp [Hid, askZ, hr, hc]
  by_cases hlt : k < p.low
  · go_wp2
    go_ret
    exact ⟨ret_i64 (by rw [HK.out]; simp [kndZ, hlt]), HA.out.1⟩
  go_wp2_with fail
  refine (l07Find_any p _ k _ HA.out.2).mono ?_
  rintro e w3 ⟨z, rfl, hz, hb3⟩
  have HB : Hid (Below w.heap.size w w3) := HA.out.1.trans (hb3.mono HA.out.1.size)
  clear hb3 x0 x1 x2 x3
  rcases hz with ⟨rfl, hf⟩ | ⟨j, s, rfl, hs, hn, hf⟩
  · have HF : Hid (kndZ p.low p.seen k = 1) := by simp [Hid, kndZ, hlt, hf]
    clear hf
    go_wp2
    go_ret
    exact ⟨ret_i64 (by rw [HK.out, HF.out]), HB.out⟩
  · have HF : Hid (kndZ p.low p.seen k = 2) := by simp [Hid, kndZ, hlt, hf]
    clear hf hs hn
    have hj : (0 : Int) ≤ (j : Int) := by omega
    go_wp2
    go_ret
    exact ⟨ret_i64 (by rw [HK.out, HF.out]), HB.out⟩
end Go.Proofs.Ytbnjieppcojckaa
