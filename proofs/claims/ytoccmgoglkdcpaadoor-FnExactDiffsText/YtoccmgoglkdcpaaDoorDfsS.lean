/- Contract of the model's DiffsText. -/
import Derived.Test.YtoccmgoglkdcpaaDoorDfsP
import Derived.Test.YtoccmgoglkdcpaaDoorDtS
import Derived.Laws.Concat
namespace Go.Proofs.YtoccmgoglkdcpaaDoor
open Go.ChangeShapes Go.WideShapes Go.ChangeAt Go.RowKit
set_option maxRecDepth 20000 in
set_option maxHeartbeats 8000000 in
theorem diffsText_spec (v : Value) (rs : List Dff) (w : World) (h : RowDf w v rs) (hz : ∀ d ∈ rs, DfB d) : Calls Tryd.prog 12 #[v] w fun e w' => e = .returned (.string (dfsT rs)) ∧ Below w.heap.size w w' := by
  obtain ⟨A, cap, rfl⟩ := h.val
  have hlen := h.len
  have H1 : Hid (RowDf w (.slice A rs.length cap) rs ∧ (∀ d ∈ rs, DfB d)) := ⟨h, hz⟩
  clear h hz
  go_enter Tryd.func12, Tryd.ntmps12
  by_cases hg : 400 < rs.length
  · have hg' : (400 : Int) < (rs.length : Int) := by omega
    have HN : Hid (dfsT rs = ⟨#[]⟩) := dfsT_no hg
    go_wp2
    go_ret
    exact ⟨by rw [HN.out]; rfl, Below.refl _ _⟩
  have hg' : ¬ (400 : Int) < (rs.length : Int) := by omega
  have HN : Hid (dfsT rs = txB (rs.map dfR)) := dfsT_yes hg
  go_wp2_with fail
  go_loopw [3, 4] (fun tv ix wr => ∃ k : Nat, ix = .int .i64 (k : Int) ∧ k ≤ rs.length ∧ tv = .string (txB ((rs.map dfR).take k)) ∧ Below w.heap.size w wr) (fun _ ix _ => rs.length - (intOf ix).toNat)
  case atStart => exact ⟨0, rfl, by omega, rfl, Below.refl _ _⟩
  case round =>
    obtain ⟨k, rfl, hk, rfl, hb⟩ := hrel
    by_cases hlt : k < rs.length
    · have hlt' : (k : Int) < (rs.length : Int) := by omega
      obtain ⟨b, o, cap', l, e, hs, hat, hz⟩ := (H1.out.1.below hb).at hlt
      simp only [Value.slice.injEq, true_and] at e
      obtain ⟨rfl, rfl⟩ := e
      have HZ : Hid (DfB l) := H1.out.2 l (List.mem_of_getElem? hs)
      have z0 := HZ.out.len
      have ht := txR_take (rs.map dfR) k
      have ht2 := dfs_len H1.out.2
      rw [← txB_size] at ht
      have hnx := txB_next (rows := rs.map dfR) (k := k) (r := dfR l) (by rw [List.getElem?_map, hs]; rfl)
      rw [← dfs_app] at hnx
      have Q1 := diffText_spec l
      obtain ⟨x, hx⟩ : ∃ x, x = dfT l := ⟨_, rfl⟩
      rw [← hx] at hnx z0 Q1
      obtain ⟨t, htt⟩ : ∃ t, t = txB ((rs.map dfR).take k) := ⟨_, rfl⟩
      rw [← htt] at ht hnx
      try rw [← htt]
      have e2 : (⟨#[10]⟩ : ByteArray).size = 1 := rfl
      have HT : Hid (txB ((rs.map dfR).take (k + 1)) = ((t ++ x) ++ (⟨#[10]⟩ : ByteArray))) := hnx
      have q0 : ∀ W, (Op.stringOp .add t x).run Tryd.prog W = .ok (.string (t ++ x)) W := fun W => run_string_add_sum _ _ _ (by omega)
      have q1 : ∀ W, (Op.stringOp .add (t ++ x) (⟨#[10]⟩ : ByteArray)).run Tryd.prog W = .ok (.string ((t ++ x) ++ (⟨#[10]⟩ : ByteArray))) W := fun W => run_string_add_sum _ _ _ (by simp only [ByteArray.size_append, e2]; omega)
      have HB : Hid (Below w.heap.size w wr) := hb
      obtain ⟨p0, p1, p2, p3, p4, p5⟩ := hat
      clear hs hz hb hnx htt hx z0 ht ht2 e2
      go_wp2_with fail
      refine (Q1 _ HZ.out.z HZ.out.i.1 HZ.out.i.2.1 HZ.out.i.2.2).mono ?_
      rintro e w2 ⟨rfl, hb2⟩
      have HE : Hid (Below w.heap.size w w2) := HB.out.trans (hb2.mono HB.out.size)
      clear hb2
      go_wp2
      go_roundw
      case rel => exact ⟨k + 1, by go_num, by omega, by rw [HT.out], HE.out⟩
      case measure => simp [intOf]; omega
    · obtain rfl : k = rs.length := by omega
      have HE : Hid (Below w.heap.size w wr ∧ txB ((rs.map dfR).take rs.length) = dfsT rs) := ⟨hb, by rw [HN.out, List.take_of_length_le (by simp)]⟩
      clear hb
      go_wp2
      go_ret
      exact ⟨by rw [← HE.out.2]; rfl, HE.out.1⟩
end Go.Proofs.YtoccmgoglkdcpaaDoor
