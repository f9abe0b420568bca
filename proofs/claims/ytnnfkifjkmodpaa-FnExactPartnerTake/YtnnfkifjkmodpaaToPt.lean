/- The copy of a partner: it reads as what it was made of, and nothing that was there is written. -/
import Derived.Test.YtnnfkifjkmodpaaRowPt
import Derived.Test.YtnnfkifjkmodpaaToSn
namespace Go.Proofs.Ytnnfkifjkmodpaa
open Go.ChangeShapes Go.WideShapes Go.ChangeAt Go.RowKit
set_option maxHeartbeats 4000000 in
theorem toPt_own (r : Ptn) (u : Value) (w : World) (h : RPt w u r) (hP : BdPt 1048576 r) :
    Calls Try.prog 8 #[.agg #[.string r.name, .int .i64 r.low, .int .i64 r.next, u]] w fun e w' => ∃ u', e = .returned (.agg #[.string r.name, .int .i64 r.low, .int .i64 r.next, u']) ∧ OwnSn w.heap.size w' u' r.seen ∧ Below w.heap.size w w' := by
  obtain ⟨name, low, next, seen⟩ := r
  obtain ⟨a, cap, rfl⟩ := h.ls.val
  dsimp only at h ⊢
  have H : Hid (RowSn w (.slice a seen.length cap) seen ∧ BdSn 1048576 seen) := ⟨h.ls, hP.2⟩
  clear h hP
  go_enter Try.func8, Try.ntmps8
  go_wp2_with fail
  have hb0 : Below w.heap.size w (((w.alloc (.cells #[.string name, .int .i64 low, .int .i64 next, (.slice a seen.length cap)] 24)).alloc (.cells #[.string ⟨#[]⟩, .int .i64 0, .int .i64 0, .slice none 0 0] 28)).alloc (.cells #[.string name, .int .i64 low, .int .i64 next, .slice none 0 0] 28)) := (((Below.refl _ _).alloc (Nat.le_refl _) _).alloc (by simp) _).alloc (by simp; omega) _
  have h3 := fl_three w (.cells #[.string name, .int .i64 low, .int .i64 next, (.slice a seen.length cap)] 24) (.cells #[.string ⟨#[]⟩, .int .i64 0, .int .i64 0, .slice none 0 0] 28) (.cells #[.string name, .int .i64 low, .int .i64 next, .slice none 0 0] 28)
  have hs0 : (((w.alloc (.cells #[.string name, .int .i64 low, .int .i64 next, (.slice a seen.length cap)] 24)).alloc (.cells #[.string ⟨#[]⟩, .int .i64 0, .int .i64 0, .slice none 0 0] 28)).alloc (.cells #[.string name, .int .i64 low, .int .i64 next, .slice none 0 0] 28)).heap.size = w.heap.size + 3 := by simp
  generalize (((w.alloc (.cells #[.string name, .int .i64 low, .int .i64 next, (.slice a seen.length cap)] 24)).alloc (.cells #[.string ⟨#[]⟩, .int .i64 0, .int .i64 0, .slice none 0 0] 28)).alloc (.cells #[.string name, .int .i64 low, .int .i64 next, .slice none 0 0] 28)) = W0 at hb0 h3 hs0 ⊢
  refine (toSns_any _ seen W0 (H.out.1.below hb0) H.out.2).mono ?_
  rintro e w1 ⟨v1, rfl, hO, hb1⟩
  obtain ⟨A1, L1, C1, hv1⟩ : ∃ A1 L1 C1, v1 = .slice A1 L1 C1 := by
    obtain ⟨b', _, _, h2, _⟩ := hO
    exact ⟨_, _, _, h2⟩
  subst hv1
  have f1 := (hb1.block (w.heap.size + 1) (by omega)).trans h3.2.1
  have f2 := (hb1.block (w.heap.size + 1 + 1) (by omega)).trans h3.2.2
  have c0 : w1.cell? ⟨w.heap.size + 1, 0, none⟩ = some (.string ⟨#[]⟩) := by simp [World.cell?, f1]
  have c1 : w1.cell? ⟨w.heap.size + 1, 1, none⟩ = some (.int .i64 0) := by simp [World.cell?, f1]
  have c2 : w1.cell? ⟨w.heap.size + 1, 2, none⟩ = some (.int .i64 0) := by simp [World.cell?, f1]
  have c3 : w1.cell? ⟨w.heap.size + 1, 3, none⟩ = some (.slice none 0 0) := by simp [World.cell?, f1]
  have d0 : w1.cell? ⟨w.heap.size + 1 + 1, 0, none⟩ = some (.string name) := by simp [World.cell?, f2]
  have d1 : w1.cell? ⟨w.heap.size + 1 + 1, 1, none⟩ = some (.int .i64 low) := by simp [World.cell?, f2]
  have d2 : w1.cell? ⟨w.heap.size + 1 + 1, 2, none⟩ = some (.int .i64 next) := by simp [World.cell?, f2]
  have d3 : w1.cell? ⟨w.heap.size + 1 + 1, 3, none⟩ = some (.slice none 0 0) := by simp [World.cell?, f2]
  have z1 : ∀ o, w1.frozen? ⟨w.heap.size + 1, o, none⟩ = false := fun o => by simp [World.frozen?, f1]
  have z2 : ∀ o, w1.frozen? ⟨w.heap.size + 1 + 1, o, none⟩ = false := fun o => by simp [World.frozen?, f2]
  have HD : Hid (Below w.heap.size w w1 ∧ OwnSn (w.heap.size + 3) w1 (.slice A1 L1 C1) seen) := ⟨hb0.trans (hb1.mono (by omega)), by rw [← hs0]; exact hO⟩
  clear f1 f2 hb0 hb1 hO h3
  go_wp2
  have st : ∀ (W : World) (c i : Nat) (x : Value), w.heap.size ≤ c → c < w.heap.size + 3 → (Below w.heap.size w W ∧ OwnSn (w.heap.size + 3) W (.slice A1 L1 C1) seen) → (Below w.heap.size w (W.setCell ⟨c, i, none⟩ x) ∧ OwnSn (w.heap.size + 3) (W.setCell ⟨c, i, none⟩ x) (.slice A1 L1 C1) seen) := fun W c i x g1 g2 ⟨k1, k2⟩ => ⟨k1.setCell g1 x, k2.setAt g2 i x⟩
  have hF := (st _ (w.heap.size + 1) 3 (.slice A1 L1 C1) (by omega) (by omega) (st _ (w.heap.size + 1) 2 (.int .i64 next) (by omega) (by omega) (st _ (w.heap.size + 1) 1 (.int .i64 low) (by omega) (by omega) (st _ (w.heap.size + 1) 0 (.string name) (by omega) (by omega) (st _ (w.heap.size + 1 + 1) 3 (.slice A1 L1 C1) (by omega) (by omega) HD.out)))))
  exact bodyPost_ret (v := .agg #[.string name, .int .i64 low, .int .i64 next, .slice A1 L1 C1]) (by simp [results, Try.results8, go_sem, c0, c1, c2, c3]) rfl ⟨_, rfl, hF.2.mono (by omega), hF.1⟩
theorem toPt_any (r : Ptn) (u : Value) (w : World) (h : RPt w u r) (hP : BdPt 1048576 r) :
    Calls Try.prog 8 #[.agg #[.string r.name, .int .i64 r.low, .int .i64 r.next, u]] w fun e w' => ∃ u', e = .returned (.agg #[.string r.name, .int .i64 r.low, .int .i64 r.next, u']) ∧ RPt w' u' r ∧ Below w.heap.size w w' :=
  (toPt_own r u w h hP).mono fun _ _ ⟨u', he, hO, hb⟩ => ⟨u', he, ⟨hO.row hP.2, h.z_name⟩, hb⟩
end Go.Proofs.Ytnnfkifjkmodpaa
