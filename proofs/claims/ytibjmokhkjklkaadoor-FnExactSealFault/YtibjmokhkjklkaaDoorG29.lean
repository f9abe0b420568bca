/- Texts of ours put together: SlS0. -/
import Derived.Test.YtibjmokhkjklkaaDoorG19
namespace Go.Proofs.YtibjmokhkjklkaaDoor
open Go.ChangeShapes Go.WideShapes Go.ChangeAt Go.RowKit
set_option maxHeartbeats 4000000 in
theorem sealSum_spec (x : Int) (t : ByteArray) (w : World) (hts : t.size ≤ 9223372036854775807) : Calls Tryd.prog 23 #[.int .i64 x, .string t] w fun e w' => e = .returned (.int .i64 (sealT x t)) ∧ Below w.heap.size w w' := by
  by_cases h3 : (t.size : Int) > 20000
  · have HE : Hid (sealT x t = 0) := sealT_no (.inr (.inr (by omega)))
    go_enter Tryd.func23, Tryd.ntmps23
    go_wp2
    go_ret
    exact ⟨by rw [HE.out]; rfl, Below.refl _ _⟩
  by_cases h1 : x < 1
  · have HE : Hid (sealT x t = 0) := sealT_no (.inl h1)
    go_enter Tryd.func23, Tryd.ntmps23
    go_wp2
    go_ret
    exact ⟨by rw [HE.out]; rfl, Below.refl _ _⟩
  by_cases h2 : x ≥ 4294967291
  · have HE : Hid (sealT x t = 0) := sealT_no (.inr (.inl h2))
    go_enter Tryd.func23, Tryd.ntmps23
    go_wp2
    go_ret
    exact ⟨by rw [HE.out]; rfl, Below.refl _ _⟩
  have HE : Hid (sealT x t = if sumZ x t.data.toList = 0 then 1 else sumZ x t.data.toList) := sealT_yes (by omega) (by omega) (by omega)
  have HX : Hid (0 ≤ x ∧ x < 4294967291) := ⟨by omega, by omega⟩
  go_enter Tryd.func23, Tryd.ntmps23
  go_wp2_with fail
  go_loopw [5, 6] (fun s i wr => ∃ k : Nat, i = .int .i64 (k : Int) ∧ k ≤ t.size ∧ s = .int .i64 (sumZ x (t.data.toList.take k)) ∧ Below w.heap.size w wr) (fun _ i _ => t.size - (intOf i).toNat)
  case atStart => exact ⟨0, rfl, by omega, rfl, Below.refl _ _⟩
  case round =>
    obtain ⟨k, rfl, hk, rfl, hb⟩ := hrel
    obtain ⟨z, hz⟩ : ∃ z, z = sumZ x (t.data.toList.take k) := ⟨_, rfl⟩
    have HZ : Hid (z = sumZ x (t.data.toList.take k)) := hz
    obtain ⟨z0, z1⟩ : 0 ≤ z ∧ z < 4294967291 := by rw [hz]; exact sumZ_bd HX.out _
    rw [← hz]
    have HB : Hid (Below w.heap.size w wr) := hb
    clear hz hb
    by_cases hlt : k < t.size
    · have hlt' : (k : Int) < (t.size : Int) := by omega
      obtain ⟨n, hn⟩ : ∃ n, n = (t[k]'hlt).toNat := ⟨_, rfl⟩
      have hnl : n < 256 := by rw [hn]; exact (t[k]'hlt).toNat_lt
      obtain ⟨y, hy⟩ : ∃ y, (257 * z + (n : Int) + 1).tmod 4294967291 = y := ⟨_, rfl⟩
      have HY : Hid (sumZ x (t.data.toList.take (k + 1)) = y) := by
        have hx : t.data.toList[k]? = some (t[k]'hlt) := by
          rw [List.getElem?_eq_getElem (by exact hlt)]
          rfl
        show _ = _
        rw [sumZ_next x hx, ← HZ.out, ← hy, hn, Int.tmod_eq_emod_of_nonneg (by omega), Int.mul_comm]
        rfl
      obtain ⟨y0, y1⟩ : 0 ≤ y ∧ y < 4294967291 := by rw [← hy, Int.tmod_eq_emod_of_nonneg (by omega)]; omega
      have hn' := hn.symm
      clear hn
      go_wp2
      go_roundw
      case rel => exact ⟨k + 1, by go_num, by omega, by rw [HY.out], HB.out⟩
      case measure => simp [intOf]; omega
    · obtain rfl : k = t.size := by omega
      have HZ2 : Hid (z = sumZ x t.data.toList) := by
        show _ = _
        rw [HZ.out, show t.data.toList.take t.size = t.data.toList from List.take_of_length_le (Nat.le_refl _)]
      by_cases hz0 : z = 0
      · have HF : Hid (sealT x t = 1) := by show _ = _; rw [HE.out, ← HZ2.out, if_pos hz0]
        subst hz0
        go_wp2
        go_ret
        exact ⟨by rw [HF.out]; rfl, HB.out⟩
      · have HF : Hid (sealT x t = z) := by show _ = _; rw [HE.out, ← HZ2.out, if_neg hz0]
        have hm : max z 1 = z := by omega
        go_wp2
        go_ret
        exact ⟨by rw [HF.out]; first | rfl | rw [hm], HB.out⟩
end Go.Proofs.YtibjmokhkjklkaaDoor
