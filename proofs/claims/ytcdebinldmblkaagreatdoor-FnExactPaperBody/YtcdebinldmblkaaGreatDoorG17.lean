/- Texts of ours put together: PiE. -/
import Derived.Test.YtcdebinldmblkaaGreatDoorG16
import Derived.Test.YtcdebinldmblkaaGreatDoorG05
namespace Go.Proofs.YtcdebinldmblkaaGreatDoor
open Go.ChangeShapes Go.WideShapes Go.ChangeAt Go.RowKit
set_option maxRecDepth 100000 in
set_option maxHeartbeats 4000000 in
theorem hasOther_any (k : Int) (w : World) (hk : 1 ≤ k ∧ k ≤ 7) (hT : TablesAt w) : Calls Tryz.prog 66 #[.int .i64 k] w fun e w' => e = .returned (.bool (hasO k)) ∧ w' = w := by
  obtain rfl | rfl | rfl | rfl | rfl | rfl | rfl : k = 1 ∨ k = 2 ∨ k = 3 ∨ k = 4 ∨ k = 5 ∨ k = 6 ∨ k = 7 := by omega
  · obtain ⟨_, b, off, cap, c1, hc1, hc2, hb, hR⟩ := hT 1 (by omega) (by omega)
    obtain ⟨_, _, _, r3⟩ := hR 0 _ rfl
    have c1' : w.cell? ⟨0, 3, none⟩ = some (.slice (some ⟨b, off, none⟩) 3 cap) := c1
    have r3' : w.cell? ⟨b, off + 3, none⟩ = some (.string (bs [114, 100])) := r3
    clear c1 r3 hR hT
    have hn : Lib.countByte (bs [114, 100]).data.toList 114 = 1 := by decide
    go_enter Tryz.func66, Tryz.ntmps66
    go_wp2_with (first | (go_at_call 79; refine (count_any _ _ _).mono ?_; rintro e w' ⟨rfl, rfl⟩; rw [hn]; try dsimp only))
    go_ret
    exact ⟨rfl, rfl⟩
  · obtain ⟨_, b, off, cap, c1, hc1, hc2, hb, hR⟩ := hT 2 (by omega) (by omega)
    obtain ⟨_, _, _, r3⟩ := hR 0 _ rfl
    have c1' : w.cell? ⟨0, 5, none⟩ = some (.slice (some ⟨b, off, none⟩) 2 cap) := c1
    have r3' : w.cell? ⟨b, off + 3, none⟩ = some (.string (bs [114, 114, 100])) := r3
    clear c1 r3 hR hT
    have hn : Lib.countByte (bs [114, 114, 100]).data.toList 114 = 2 := by decide
    go_enter Tryz.func66, Tryz.ntmps66
    go_wp2_with (first | (go_at_call 79; refine (count_any _ _ _).mono ?_; rintro e w' ⟨rfl, rfl⟩; rw [hn]; try dsimp only))
    go_ret
    exact ⟨rfl, rfl⟩
  · obtain ⟨_, b, off, cap, c1, hc1, hc2, hb, hR⟩ := hT 3 (by omega) (by omega)
    obtain ⟨_, _, _, r3⟩ := hR 0 _ rfl
    have c1' : w.cell? ⟨0, 7, none⟩ = some (.slice (some ⟨b, off, none⟩) 3 cap) := c1
    have r3' : w.cell? ⟨b, off + 3, none⟩ = some (.string (bs [114, 114, 100])) := r3
    clear c1 r3 hR hT
    have hn : Lib.countByte (bs [114, 114, 100]).data.toList 114 = 2 := by decide
    go_enter Tryz.func66, Tryz.ntmps66
    go_wp2_with (first | (go_at_call 79; refine (count_any _ _ _).mono ?_; rintro e w' ⟨rfl, rfl⟩; rw [hn]; try dsimp only))
    go_ret
    exact ⟨rfl, rfl⟩
  · obtain ⟨_, b, off, cap, c1, hc1, hc2, hb, hR⟩ := hT 4 (by omega) (by omega)
    obtain ⟨_, _, _, r3⟩ := hR 0 _ rfl
    have c1' : w.cell? ⟨0, 9, none⟩ = some (.slice (some ⟨b, off, none⟩) 2 cap) := c1
    have r3' : w.cell? ⟨b, off + 3, none⟩ = some (.string (bs [114, 114, 100])) := r3
    clear c1 r3 hR hT
    have hn : Lib.countByte (bs [114, 114, 100]).data.toList 114 = 2 := by decide
    go_enter Tryz.func66, Tryz.ntmps66
    go_wp2_with (first | (go_at_call 79; refine (count_any _ _ _).mono ?_; rintro e w' ⟨rfl, rfl⟩; rw [hn]; try dsimp only))
    go_ret
    exact ⟨rfl, rfl⟩
  · obtain ⟨_, b, off, cap, c1, hc1, hc2, hb, hR⟩ := hT 5 (by omega) (by omega)
    obtain ⟨_, _, _, r3⟩ := hR 0 _ rfl
    have c1' : w.cell? ⟨0, 11, none⟩ = some (.slice (some ⟨b, off, none⟩) 2 cap) := c1
    have r3' : w.cell? ⟨b, off + 3, none⟩ = some (.string (bs [114, 100])) := r3
    clear c1 r3 hR hT
    have hn : Lib.countByte (bs [114, 100]).data.toList 114 = 1 := by decide
    go_enter Tryz.func66, Tryz.ntmps66
    go_wp2_with (first | (go_at_call 79; refine (count_any _ _ _).mono ?_; rintro e w' ⟨rfl, rfl⟩; rw [hn]; try dsimp only))
    go_ret
    exact ⟨rfl, rfl⟩
  · obtain ⟨_, b, off, cap, c1, hc1, hc2, hb, hR⟩ := hT 6 (by omega) (by omega)
    obtain ⟨_, _, _, r3⟩ := hR 0 _ rfl
    have c1' : w.cell? ⟨0, 13, none⟩ = some (.slice (some ⟨b, off, none⟩) 2 cap) := c1
    have r3' : w.cell? ⟨b, off + 3, none⟩ = some (.string (bs [114, 100])) := r3
    clear c1 r3 hR hT
    have hn : Lib.countByte (bs [114, 100]).data.toList 114 = 1 := by decide
    go_enter Tryz.func66, Tryz.ntmps66
    go_wp2_with (first | (go_at_call 79; refine (count_any _ _ _).mono ?_; rintro e w' ⟨rfl, rfl⟩; rw [hn]; try dsimp only))
    go_ret
    exact ⟨rfl, rfl⟩
  · obtain ⟨_, b, off, cap, c1, hc1, hc2, hb, hR⟩ := hT 7 (by omega) (by omega)
    obtain ⟨_, _, _, r3⟩ := hR 0 _ rfl
    have c1' : w.cell? ⟨0, 15, none⟩ = some (.slice (some ⟨b, off, none⟩) 2 cap) := c1
    have r3' : w.cell? ⟨b, off + 3, none⟩ = some (.string (bs [114, 100])) := r3
    clear c1 r3 hR hT
    have hn : Lib.countByte (bs [114, 100]).data.toList 114 = 1 := by decide
    go_enter Tryz.func66, Tryz.ntmps66
    go_wp2_with (first | (go_at_call 79; refine (count_any _ _ _).mono ?_; rintro e w' ⟨rfl, rfl⟩; rw [hn]; try dsimp only))
    go_ret
    exact ⟨rfl, rfl⟩
set_option maxRecDepth 100000 in
set_option maxHeartbeats 4000000 in
theorem lineTag_any (k : Int) (w : World) (hk : 1 ≤ k ∧ k ≤ 7) (hT : TablesAt w) : Calls Tryz.prog 44 #[.int .i64 k] w fun e w' => e = .returned (.string (sTag k)) ∧ w' = w := by
  obtain rfl | rfl | rfl | rfl | rfl | rfl | rfl : k = 1 ∨ k = 2 ∨ k = 3 ∨ k = 4 ∨ k = 5 ∨ k = 6 ∨ k = 7 := by omega
  · obtain ⟨_, b, off, cap, c1, hc1, hc2, hb, hR⟩ := hT 1 (by omega) (by omega)
    obtain ⟨r0, _, _, _⟩ := hR 2 _ rfl
    have c1' : w.cell? ⟨0, 3, none⟩ = some (.slice (some ⟨b, off, none⟩) 3 cap) := c1
    have r0' : w.cell? ⟨b, off + 8, none⟩ = some (.string (bs [76, 73, 78])) := r0
    have hc1' : 3 ≤ cap := hc1
    clear c1 r0 hR hT hc1
    go_enter Tryz.func44, Tryz.ntmps44
    go_wp2
    go_ret
    exact ⟨rfl, rfl⟩
  · obtain ⟨_, b, off, cap, c1, hc1, hc2, hb, hR⟩ := hT 2 (by omega) (by omega)
    obtain ⟨r0, _, _, _⟩ := hR 1 _ rfl
    have c1' : w.cell? ⟨0, 5, none⟩ = some (.slice (some ⟨b, off, none⟩) 2 cap) := c1
    have r0' : w.cell? ⟨b, off + 4, none⟩ = some (.string (bs [76, 73, 78])) := r0
    have hc1' : 2 ≤ cap := hc1
    clear c1 r0 hR hT hc1
    go_enter Tryz.func44, Tryz.ntmps44
    go_wp2
    go_ret
    exact ⟨rfl, rfl⟩
  · obtain ⟨_, b, off, cap, c1, hc1, hc2, hb, hR⟩ := hT 3 (by omega) (by omega)
    obtain ⟨r0, _, _, _⟩ := hR 2 _ rfl
    have c1' : w.cell? ⟨0, 7, none⟩ = some (.slice (some ⟨b, off, none⟩) 3 cap) := c1
    have r0' : w.cell? ⟨b, off + 8, none⟩ = some (.string (bs [76, 73, 78])) := r0
    have hc1' : 3 ≤ cap := hc1
    clear c1 r0 hR hT hc1
    go_enter Tryz.func44, Tryz.ntmps44
    go_wp2
    go_ret
    exact ⟨rfl, rfl⟩
  · obtain ⟨_, b, off, cap, c1, hc1, hc2, hb, hR⟩ := hT 4 (by omega) (by omega)
    obtain ⟨r0, _, _, _⟩ := hR 1 _ rfl
    have c1' : w.cell? ⟨0, 9, none⟩ = some (.slice (some ⟨b, off, none⟩) 2 cap) := c1
    have r0' : w.cell? ⟨b, off + 4, none⟩ = some (.string (bs [76, 73, 78])) := r0
    have hc1' : 2 ≤ cap := hc1
    clear c1 r0 hR hT hc1
    go_enter Tryz.func44, Tryz.ntmps44
    go_wp2
    go_ret
    exact ⟨rfl, rfl⟩
  · obtain ⟨_, b, off, cap, c1, hc1, hc2, hb, hR⟩ := hT 5 (by omega) (by omega)
    obtain ⟨r0, _, _, _⟩ := hR 1 _ rfl
    have c1' : w.cell? ⟨0, 11, none⟩ = some (.slice (some ⟨b, off, none⟩) 2 cap) := c1
    have r0' : w.cell? ⟨b, off + 4, none⟩ = some (.string (bs [73, 84, 77])) := r0
    have hc1' : 2 ≤ cap := hc1
    clear c1 r0 hR hT hc1
    go_enter Tryz.func44, Tryz.ntmps44
    go_wp2
    go_ret
    exact ⟨rfl, rfl⟩
  · obtain ⟨_, b, off, cap, c1, hc1, hc2, hb, hR⟩ := hT 6 (by omega) (by omega)
    obtain ⟨r0, _, _, _⟩ := hR 1 _ rfl
    have c1' : w.cell? ⟨0, 13, none⟩ = some (.slice (some ⟨b, off, none⟩) 2 cap) := c1
    have r0' : w.cell? ⟨b, off + 4, none⟩ = some (.string (bs [73, 84, 77])) := r0
    have hc1' : 2 ≤ cap := hc1
    clear c1 r0 hR hT hc1
    go_enter Tryz.func44, Tryz.ntmps44
    go_wp2
    go_ret
    exact ⟨rfl, rfl⟩
  · obtain ⟨_, b, off, cap, c1, hc1, hc2, hb, hR⟩ := hT 7 (by omega) (by omega)
    obtain ⟨r0, _, _, _⟩ := hR 1 _ rfl
    have c1' : w.cell? ⟨0, 15, none⟩ = some (.slice (some ⟨b, off, none⟩) 2 cap) := c1
    have r0' : w.cell? ⟨b, off + 4, none⟩ = some (.string (bs [65, 67, 75])) := r0
    have hc1' : 2 ≤ cap := hc1
    clear c1 r0 hR hT hc1
    go_enter Tryz.func44, Tryz.ntmps44
    go_wp2
    go_ret
    exact ⟨rfl, rfl⟩
end Go.Proofs.YtcdebinldmblkaaGreatDoor
