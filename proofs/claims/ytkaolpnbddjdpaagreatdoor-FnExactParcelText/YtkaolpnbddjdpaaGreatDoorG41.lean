/- Texts of ours put together: IxBd. -/
import Derived.Test.YtkaolpnbddjdpaaGreatDoorG40
import Derived.Test.YtkaolpnbddjdpaaGreatDoorG19
import Derived.Test.YtkaolpnbddjdpaaGreatDoorG38
namespace Go.Proofs.YtkaolpnbddjdpaaGreatDoor
open Go.ChangeShapes Go.WideShapes Go.ChangeAt Go.RowKit
theorem hdS_bd {tag : ByteArray} {ws : List ByteArray} (ht : tag.size = 3) (hl : ws.length ≤ 10) (hw : ∀ t ∈ ws, t.size ≤ 40) : BdX (hdS tag ws).2 ∧ (hdS tag ws).2.length ≤ 10 ∧ (hdS tag ws).1.size = 3 := by
  refine ⟨fun e he => ?_, by simpa [hdS] using hl, ht⟩
  simp only [hdS, List.mem_map] at he
  obtain ⟨t, h1, rfl⟩ := he
  exact ⟨by simp, fun s hs => by simp only [List.mem_cons, List.not_mem_nil, or_false] at hs; rw [hs]; exact hw t h1⟩
theorem msgSegs_bd {m : Msg} (h : msgB m = true) : BdLg (msgSegs m) := by
  obtain ⟨h1, h2, h3, h4⟩ := msgB_facts h
  intro g hg
  simp only [msgSegs, List.mem_cons, List.mem_append, List.not_mem_nil, or_false] at hg
  rcases hg with rfl | hg | rfl
  · exact hdS_bd (by decide) (by simp) (fun t ht => by simp only [List.mem_cons, List.not_mem_nil, or_false] at ht; rw [ht]; exact Nat.le_trans (decS_size (m.num) (by omega) (by omega)) (by decide))
  · obtain ⟨k1, k2, k3⟩ := right_bounds (h4 g hg)
    exact ⟨fun e he => ⟨(k3 e he).2.1, (k3 e he).2.2⟩, k2, k1⟩
  · refine hdS_bd (by decide) (by simp) (fun t ht => ?_)
    simp only [List.mem_cons, List.not_mem_nil, or_false] at ht
    rcases ht with rfl | rfl
    · exact Nat.le_trans (decS_size (m.body.length) (by omega) (by omega)) (by decide)
    · exact Nat.le_trans (decS_size (m.num) (by omega) (by omega)) (by decide)
theorem bunSegs_bd {m : Bun} (h : bunB m = true) : BdLg (bunSegs m) := by
  obtain ⟨i1, i2, i3, i4, i5, i6, i7⟩ := bunB_facts h
  intro g hg
  simp only [bunSegs, List.mem_cons, List.mem_append, List.mem_flatMap, List.not_mem_nil, or_false] at hg
  rcases hg with rfl | ⟨x, hx, hg⟩ | rfl
  · refine hdS_bd (by decide) (by simp) (fun t ht => ?_)
    simp only [List.mem_cons, List.not_mem_nil, or_false] at ht
    rcases ht with rfl | rfl
    · exact Nat.le_trans (decS_size (m.kind) (by omega) (by omega)) (by decide)
    · exact Nat.le_trans (decS_size (m.num) (by omega) (by omega)) (by decide)
  · exact msgSegs_bd (i7 x hx) g hg
  · refine hdS_bd (by decide) (by simp) (fun t ht => ?_)
    simp only [List.mem_cons, List.not_mem_nil, or_false] at ht
    rcases ht with rfl | rfl
    · exact Nat.le_trans (decS_size (m.msgs.length) (by omega) (by omega)) (by decide)
    · exact Nat.le_trans (decS_size (m.num) (by omega) (by omega)) (by decide)
theorem ixSegsR_bd (m : Ixc) : BdLg (ixSegsR m) ∧ (ixSegsR m).length ≤ 2400 := by
  unfold ixSegsR
  cases h : ixB m
  · exact ⟨fun g hg => by simp at hg, by simp⟩
  · obtain ⟨h1, h2, h3, h4, h5, h6, h7⟩ := ixB_facts h
    simp only [cond_true]
    refine ⟨fun g hg => ?_, ?_⟩
    · simp only [ixSegs, List.mem_cons, List.mem_append, List.mem_flatMap, List.not_mem_nil, or_false] at hg
      rcases hg with rfl | ⟨x, hx, hg⟩ | rfl
      · refine hdS_bd (by decide) (by simp) (fun t ht => ?_)
        simp only [List.mem_cons, List.not_mem_nil, or_false] at ht
        rcases ht with rfl | rfl | rfl
        · omega
        · omega
        · exact Nat.le_trans (decS_size (m.num) (by omega) (by omega)) (by decide)
      · exact bunSegs_bd (h7 x hx) g hg
      · refine hdS_bd (by decide) (by simp) (fun t ht => ?_)
        simp only [List.mem_cons, List.not_mem_nil, or_false] at ht
        rcases ht with rfl | rfl
        · exact Nat.le_trans (decS_size (m.buns.length) (by omega) (by omega)) (by decide)
        · exact Nat.le_trans (decS_size (m.num) (by omega) (by omega)) (by decide)
    · have := flat_len2 h7
      simp only [ixSegs, List.length_cons, List.length_append, List.length_nil]
      omega
end Go.Proofs.YtkaolpnbddjdpaaGreatDoor
