/- A move there and back: pure. -/
import Derived.Test.YtenjcmgkfemmgaaMvP
import Derived.Test.YtenjcmgkfemmgaaStI
namespace Go.Proofs.Ytenjcmgkfemmgaa
open Go.ChangeShapes Go.WideShapes Go.ChangeAt Go.RowKit
theorem insS_self (s : Stk) : ∀ l : List Stk, s ∈ insS s l
  | [] => by simp [insS]
  | y :: r => by
    simp only [insS]
    split
    · simp
    · exact List.mem_cons_of_mem _ (insS_self s r)
theorem mv_right {p : Bk} {t : ByteArray} {z : Int} (h : MvOk p t z) : bkB ⟨mvL p t z, p.lines⟩ = true := by
  obtain ⟨h1, h2⟩ := bkB_iff.1 h.right
  refine bkB_iff.2 ⟨RightS.of_pair ?_ ?_ (mvL_rise h1.pair), h2⟩
  · show (mvL p t z).length ≤ 100
    rw [mvL_len h1.pair]
    have := h1.len
    split
    · omega
    · rename_i hh
      rcases h.room with r | r
      · exact absurd r hh
      · omega
  · intro c hc
    rcases insS_mem c hc with rfl | hc
    · exact ⟨h.nm, h.lo, h.hi⟩
    · exact h1.ok c (List.mem_filter.1 hc).1
theorem mv_find {p : Bk} {t : ByteArray} {z : Int} (h : MvOk p t z) : findS t (mvL p t z) = some ⟨t, handT p t + z⟩ := findS_mem (s := ⟨t, handT p t + z⟩) (mvL_rise (bkB_iff.1 h.right).1.pair) (insS_self _ _)
theorem mv_hand {p : Bk} {t : ByteArray} {z : Int} (h : MvOk p t z) : handT ⟨mvL p t z, p.lines⟩ t = handT p t + z := by
  have e : handT ⟨mvL p t z, p.lines⟩ t = ((findS t (mvL p t z)).map Stk.hand).getD 0 := by unfold handT; rw [if_pos (mv_right h)]
  rw [e, mv_find h]
  rfl
theorem mv_lines (p : Bk) (t : ByteArray) (z : Int) : (movT p t z).lines = p.lines := by
  by_cases g : MvOk p t z
  · rw [movT_yes g]
  · rw [movT_no g]
theorem mv_law {p : Bk} {t : ByteArray} {z : Int} (hr : bkB p = true) : bkB (movT p t z) = true ∧ ((movT p t z).stocks = p.stocks → handT (movT p t z) t = handT p t) ∧ ((movT p t z).stocks ≠ p.stocks → handT (movT p t z) t = handT p t + z ∧ handT (movT (movT p t z) t (-z)) t = handT p t) := by
  by_cases g : MvOk p t z
  · rw [movT_yes g]
    have h1 := mv_right g
    have h2 := mv_hand g
    refine ⟨h1, fun e => by rw [show (⟨mvL p t z, p.lines⟩ : Bk) = p by show (⟨mvL p t z, p.lines⟩ : Bk) = ⟨p.stocks, p.lines⟩; rw [show mvL p t z = p.stocks from e]], fun _ => ⟨h2, ?_⟩⟩
    have hb := handT_bound p t
    have g2 : MvOk ⟨mvL p t z, p.lines⟩ t (-z) := ⟨h1, g.nm, by rw [h2]; omega, by rw [h2]; omega, .inl (by show (findS t (mvL p t z)).isSome = true; rw [mv_find g]; rfl)⟩
    rw [movT_yes g2, mv_hand g2, h2]
    omega
  · rw [movT_no g]
    exact ⟨hr, fun _ => rfl, fun e => absurd rfl e⟩
end Go.Proofs.Ytenjcmgkfemmgaa
