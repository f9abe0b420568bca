/- Texts of ours put together: DgF, Mu. -/
import Derived.Test.YtibjmokhkjklkaaDoorG04
import Derived.Test.YtibjmokhkjklkaaDoorG00
import Derived.Deep.RegionHeld3
import Derived.Test.YtibjmokhkjklkaaDoorG01
import Derived.Conc.MuLone
import Derived.KernelRfl
namespace Go.Proofs.YtibjmokhkjklkaaDoor
open Go.ChangeShapes Go.WideShapes Go.ChangeAt Go.RowKit
theorem gby_trans {a b c : World} {o : Option Nat} (h : a.grownBy b o) (h' : b.grownBy c o) : a.grownBy c o := ⟨h'.os.trans h.os, h'.tape.trans h.tape, h'.output.trans h.output, Nat.le_trans h.size h'.size, fun k hk hn => (h'.block k (Nat.lt_of_lt_of_le hk h.size) hn).trans (h.block k hk hn)⟩
theorem gby_set (w : World) (B i : Nat) (x : Value) : w.grownBy (w.setCell ⟨B, i, none⟩ x) (some B) := ⟨rfl, rfl, rfl, by simp, fun k _ hn => by simp only [World.setCell]; rw [Array.getElem?_modify, if_neg (fun e => hn (by rw [← e]))]⟩
theorem omap_of {W W' : World} {b n : Nat} {l : List (Int × Int)} (h : W.ownsMap Tryd.prog 21 rdU b n (mapU l)) (e : W'.heap[b]? = W.heap[b]?) : W'.ownsMap Tryd.prog 21 rdU b n (mapU l) := by
  obtain ⟨es, c, h1, h2⟩ := h
  exact ⟨es, c, e.trans h1, h2⟩
theorem setNeD {W : World} {b c i : Nat} (y : Value) (h : b ≠ c) : (W.setCell ⟨c, i, none⟩ y).heap[b]? = W.heap[b]? := by
  simp only [World.setCell]
  rw [Array.getElem?_modify, if_neg (fun e => h e.symm)]
set_option maxRecDepth 100000 in
set_option maxHeartbeats 4000000 in
theorem fill_any {T nn : Nat} {r : Nat → Value} (hnn : 20 ≤ nn) (B : Nat) (d s : Int) (w : World) (h : w.rowIs B T nn (digF d s 0 (.map none) r)) : Calls Tryd.prog 67 #[.pointer (some ⟨B, 0, none⟩)] w fun e w' => e = .returned (.tuple #[]) ∧ w'.rowIs B T nn (digF d s 16 (.map (some w.heap.size)) r) ∧ w'.ownsMap Tryd.prog 21 rdU w.heap.size 16 (mapU (dgs 16)) ∧ w.grownBy w' (some B) := by
  have hlt := h.lt
  obtain ⟨W0, hW0⟩ : ∃ W0, (w.alloc (.map #[] 0)).setCell ⟨B, 19, none⟩ (.map (some w.heap.size)) = W0 := ⟨_, rfl⟩
  have H0 : Hid (W0.rowIs B T nn (digF d s 0 (.map (some w.heap.size)) r) ∧ W0.ownsMap Tryd.prog 21 rdU w.heap.size 0 (mapU (dgs 0)) ∧ w.grownBy W0 (some B)) := by
    rw [← hW0]
    have h1 := ((h.alloc (.map #[] 0)).set 19 (.map (some w.heap.size))).congr (g := digF d s 0 (.map (some w.heap.size)) r) (fun i _ => digF_map i)
    have ko : (w.alloc (.map #[] 0)).ownsMap Tryd.prog 21 rdU w.heap.size 0 (mapU (dgs 0)) := World.ownsMap_made w Tryd.prog 21 rdU
    refine ⟨h1, omap_of ko (setNeD _ (by omega)), ?_⟩
    · exact gby_trans (b := w.alloc (.map #[] 0)) ⟨rfl, rfl, rfl, by simp, fun k hk _ => ((Below.refl w.heap.size w).alloc (Nat.le_refl _) _).block k hk⟩ (gby_set _ B 19 _)
  have hmm := run_makeU
  have c19 := (h.alloc (.map #[] 0)).cell (i := 19) (by omega)
  have fz := (h.alloc (.map #[] 0)).frozen
  clear h
  go_enter Tryd.func67, Tryd.ntmps67
  go_wp2
  try rw [hW0]
  clear hW0 hmm c19 fz
  go_loopw [8] (fun i wr => ∃ k : Nat, i = .int .i64 (k : Int) ∧ k ≤ 16 ∧ wr.rowIs B T nn (digF d s k (.map (some w.heap.size)) r) ∧ wr.ownsMap Tryd.prog 21 rdU w.heap.size k (mapU (dgs k)) ∧ w.grownBy wr (some B)) (fun i _ => 16 - (intOf i).toNat)
  case atStart => exact ⟨0, rfl, by omega, H0.out.1, H0.out.2.1, H0.out.2.2⟩
  case round =>
    obtain ⟨k, rfl, hk, hr, hm, hg⟩ := hrel
    have HI : Hid (wr.rowIs B T nn (digF d s k (.map (some w.heap.size)) r) ∧ wr.ownsMap Tryd.prog 21 rdU w.heap.size k (mapU (dgs k)) ∧ w.grownBy wr (some B)) := ⟨hr, hm, hg⟩
    by_cases hlt : k < 16
    · have hlt' : (k : Int) < 16 := by omega
      have ck := hr.cell (i := 3 + k) (by omega)
      have c19 : wr.cell? ⟨B, 19, none⟩ = some (.map (some w.heap.size)) := hr.cell (i := 19) (by omega)
      have fz := hr.frozen
      have hown : Hid (∀ z : Int, (wr.setCell ⟨B, 3 + k, none⟩ (.int .u8 z)).ownsMap Tryd.prog 21 rdU w.heap.size k (mapU (dgs k))) := fun z => omap_of HI.out.2.1 (setNeD _ (by omega))
      have HF : Hid (∀ w1, (wr.setCell ⟨B, 3 + k, none⟩ (.int .u8 (hexD k))).grownBy w1 (some w.heap.size) → w1.ownsMap Tryd.prog 21 rdU w.heap.size (k + 1) ((mapU (dgs k)).put (.int .i32 (hexD k)) (.held (k : Int))) → w1.rowIs B T nn (digF d s (k + 1) (.map (some w.heap.size)) r) ∧ w1.ownsMap Tryd.prog 21 rdU w.heap.size (k + 1) (mapU (dgs (k + 1))) ∧ w.grownBy w1 (some B)) := fun w1 hg1 ho1 => by
        rw [dgs_put] at ho1
        have hr1 := (HI.out.1.set (3 + k) (.int .u8 (hexD k))).congr (g := digF d s (k + 1) (.map (some w.heap.size)) r) (fun i _ => digF_set (by omega) i)
        refine ⟨hr1.of_block (hg1.block B hr1.lt (by simp; omega)), ho1, ?_⟩
        have g1 := gby_trans HI.out.2.2 (gby_set wr B (3 + k) (.int .u8 (hexD k)))
        exact ⟨hg1.os.trans g1.os, hg1.tape.trans g1.tape, hg1.output.trans g1.output, Nat.le_trans g1.size hg1.size, fun j hj hn => (hg1.block j (Nat.lt_of_lt_of_le hj g1.size) (by simp; omega)).trans (g1.block j hj hn)⟩
      clear hr hm hg
      by_cases h10 : k < 10
      · have h10' : ¬ (k : Int) ≥ 10 := by omega
        have HE : Hid (48 + (k : Int) = hexD k) := by show 48 + (k : Int) = hexD k; unfold hexD; rw [if_pos h10]
        go_wp2_with (first | (at_mapUpdate; refine wpList_mapUpdate_own _ rfl _ _ _ 83 rfl 21 5 i32_keyed Tryd.underlying83 rdU w.heap.size k _ rfl (hown.out (48 + (k : Int))) (by unfold maxLen; omega) _ _ _ rfl rfl (i32_key (n := 48 + (k : Int)) (by omega)) _ [] (rdU_mk (k : Int)) ?_; intro w1 hown1 hgrow1))
        rw [HE.out] at hown1 hgrow1
        have H1 : Hid _ := HF.out w1 hgrow1 hown1
        clear hown1 hgrow1 ck c19 fz
        go_wp2
        go_roundw
        case rel => exact ⟨k + 1, by go_num, by omega, H1.out⟩
        case measure => simp [intOf]; omega
      · have h10' : (k : Int) ≥ 10 := by omega
        have HE : Hid (97 + (k : Int) - 10 = hexD k) := by show 97 + (k : Int) - 10 = hexD k; unfold hexD; rw [if_neg h10]; omega
        go_wp2_with (first | (at_mapUpdate; refine wpList_mapUpdate_own _ rfl _ _ _ 83 rfl 21 5 i32_keyed Tryd.underlying83 rdU w.heap.size k _ rfl (hown.out (97 + (k : Int) - 10)) (by unfold maxLen; omega) _ _ _ rfl rfl (i32_key (n := 97 + (k : Int) - 10) (by omega)) _ [] (rdU_mk (k : Int)) ?_; intro w1 hown1 hgrow1))
        rw [HE.out] at hown1 hgrow1
        have H1 : Hid _ := HF.out w1 hgrow1 hown1
        clear hown1 hgrow1 ck c19 fz
        go_wp2
        go_roundw
        case rel => exact ⟨k + 1, by go_num, by omega, H1.out⟩
        case measure => simp [intOf]; omega
    · obtain rfl : k = 16 := by omega
      clear hr hm hg
      go_wp2
      go_end0
      exact ⟨rfl, HI.out⟩
end Go.Proofs.YtibjmokhkjklkaaDoor
namespace Go.Proofs.YtibjmokhkjklkaaDoor
open Go.ChangeShapes Go.WideShapes Go.ChangeAt Go.RowKit
abbrev muLink : Go.Conc.Locks.MuLink := { lock := 74, unlock := 75, ilock := 77, iunlock := 78, lockSlow := 85, unlockSlow := 88, disable := 81, enable := 83, acquire := 84, relMerge := 86, cas32 := 82, add32 := 87, tMutex := 79, tIMutex := 77, tPMutex := 122, tPIMutex := 125, tPI32 := 127, tUP := 112, tNoCopy := 71, tU32 := 73 }
theorem muLib : Go.Conc.Locks.MuLib Tryd.prog muLink :=
  ⟨Tryd.func74, Tryd.func75, Tryd.func77, Tryd.func78, Tryd.func81, Tryd.func83, Tryd.func84, Tryd.func86, Tryd.func82, Tryd.func87, Tryd.underlying77, Tryd.runUnderlying77, Tryd.sizeOf77, Tryd.isAgg77, Tryd.zeroValue77, Tryd.underlying79, Tryd.runUnderlying79, Tryd.sizeOf79, Tryd.isAgg79, Tryd.zeroValue79, Tryd.underlying122, Tryd.runUnderlying122, Tryd.sizeOf122, Tryd.isAgg122, Tryd.zeroValue122, Tryd.underlying125, Tryd.runUnderlying125, Tryd.sizeOf125, Tryd.isAgg125, Tryd.zeroValue125, Tryd.underlying127, Tryd.runUnderlying127, Tryd.sizeOf127, Tryd.isAgg127, Tryd.zeroValue127, Tryd.underlying112, Tryd.runUnderlying112, Tryd.sizeOf112, Tryd.isAgg112, Tryd.zeroValue112, Tryd.underlying71, Tryd.runUnderlying71, Tryd.sizeOf71, Tryd.isAgg71, Tryd.zeroValue71, Tryd.underlying21, Tryd.runUnderlying21, Tryd.sizeOf21, Tryd.isAgg21, Tryd.zeroValue21, (by kernel_rfl)⟩
end Go.Proofs.YtibjmokhkjklkaaDoor
