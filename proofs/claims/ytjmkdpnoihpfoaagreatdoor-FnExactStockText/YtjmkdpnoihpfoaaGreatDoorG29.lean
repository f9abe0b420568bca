/- Texts of ours put together: BhH. -/
import Derived.Test.YtjmkdpnoihpfoaaGreatDoorG24
import Derived.Test.YtjmkdpnoihpfoaaGreatDoorG28
namespace Go.Proofs.YtjmkdpnoihpfoaaGreatDoor
open Go.ChangeShapes Go.WideShapes Go.ChangeAt Go.RowKit
theorem run_makeS (n : Int) (w : World) : (Instr.makeMap 69 (some (.int .i64 n))).run Tryz.prog w = .ok (.map (some w.heap.size)) (w.alloc (.map #[] 0)) := by
  simp [Instr.makeMap, run_underlying Tryz.underlying69, asInt, asIntOf, Result.andThen]
theorem grown_belowS {a b : World} {j B : Nat} (h : a.grownBy b (some j)) (hB : B ≤ j) (hs : B ≤ a.heap.size) : Below B a b :=
  ⟨h.os, h.tape, h.output, h.size, fun k hk => h.block k (by omega) (by simp; omega)⟩
set_option maxRecDepth 100000 in
set_option maxHeartbeats 4000000 in
theorem handsOf_any (v : Value) (rs : List Stk) (w : World) (h : RowSt w v rs) (hl : rs.length ≤ 100) (hr : RiseS rs) (hn : ∀ x ∈ rs, x.item.size ≤ 12) : Calls Tryz.prog 35 #[v] w fun e w' => e = .returned (.map (some w.heap.size)) ∧ w'.ownsMap Tryz.prog 9 rdZ w.heap.size rs.length (mapS rs) ∧ Below w.heap.size w w' := by
  have hlen := h.len
  obtain ⟨A, C, rfl⟩ := h.val
  have hmm := run_makeS
  have H0 : Hid (RowSt w (.slice A rs.length C) rs ∧ RiseS rs ∧ ∀ x ∈ rs, x.item.size ≤ 12) := ⟨h, hr, hn⟩
  clear h hr hn
  go_enter Tryz.func35, Tryz.ntmps35
  go_wp2
  have hb0 : Below w.heap.size w (w.alloc (.map #[] 0)) := (Below.refl _ _).alloc (Nat.le_refl _) _
  have ko : (w.alloc (.map #[] 0)).ownsMap Tryz.prog 9 rdZ w.heap.size 0 (mapS []) := World.ownsMap_made w Tryz.prog 9 rdZ
  have HI : Hid (Below w.heap.size w (w.alloc (.map #[] 0)) ∧ (w.alloc (.map #[] 0)).ownsMap Tryz.prog 9 rdZ w.heap.size 0 (mapS [])) := ⟨hb0, ko⟩
  clear hb0 ko hmm
  go_loopw [12] (fun i wr => ∃ k : Nat, i = .int .i64 (k : Int) ∧ k ≤ rs.length ∧ Below w.heap.size w wr ∧ wr.ownsMap Tryz.prog 9 rdZ w.heap.size k (mapS (rs.take k))) (fun i _ => rs.length - (intOf i).toNat)
  case atStart => exact ⟨0, rfl, by omega, HI.out.1, by simpa using HI.out.2⟩
  case round =>
    obtain ⟨k, rfl, hk, hb, ko⟩ := hrel
    have HE : Hid (Below w.heap.size w wr ∧ wr.ownsMap Tryz.prog 9 rdZ w.heap.size k (mapS (rs.take k))) := ⟨hb, ko⟩
    have hltw := ko.lt
    by_cases hlt : k < rs.length
    · have hlt' : (k : Int) < (rs.length : Int) := by omega
      obtain ⟨b, o, cap', g, e, hs, ⟨q0, q1⟩, _⟩ := (H0.out.1.below hb).at hlt
      simp only [Value.slice.injEq, true_and] at e
      obtain ⟨rfl, rfl⟩ := e
      have HS : Hid (rs[k]? = some g) := hs
      have hg := H0.out.2.2 g (List.mem_of_getElem? hs)
      clear hs
      clear hb ko
      obtain ⟨item, hand⟩ := g
      dsimp only at q0 q1 hg
      have hown : (wr.alloc (.cells #[.string item, .int .i64 hand] 59)).ownsMap Tryz.prog 9 rdZ w.heap.size k (mapS (rs.take k)) := HE.out.2.alloc _
      go_wp2_with (first | (at_mapUpdate; refine wpList_mapUpdate_own _ rfl _ _ _ 69 rfl 9 2 str_keyed Tryz.underlying69 rdZ w.heap.size k _ rfl hown (by unfold maxLen; omega) _ _ _ rfl rfl (str_key (by unfold maxLen; omega)) _ [] (rdZ_mk hand) ?_; intro w1 hown1 hgrow1))
      have hE := HE.out
      have H1 : Hid (Below w.heap.size w w1 ∧ w1.ownsMap Tryz.prog 9 rdZ w.heap.size (k + 1) (mapS (rs.take (k + 1)))) := by
        refine ⟨(hE.1.alloc hE.1.size _).trans (grown_belowS hgrow1 (Nat.le_refl _) (by simp; omega)), ?_⟩
        have e1 := put_mapS item hand (rs.take k)
        have e2 : ∀ x ∈ rs.take k, befS x ⟨item, hand⟩ = true := fun x hx => by
          obtain ⟨i, hi⟩ := List.getElem?_of_mem hx
          have hik : i < k := by
            have := (List.getElem?_eq_some_iff.1 hi).1
            rw [List.length_take] at this
            omega
          rw [List.getElem?_take_of_lt hik] at hi
          obtain ⟨h1, h2⟩ := List.getElem?_eq_some_iff.1 hi
          obtain ⟨h3, h4⟩ := List.getElem?_eq_some_iff.1 HS.out
          have := List.pairwise_iff_getElem.1 H0.out.2.1 i k h1 h3 hik
          rw [h2, h4] at this
          exact this
        rw [insS_last (s := ⟨item, hand⟩) e2] at e1
        rw [e1] at hown1
        have e3 : rs.take (k + 1) = rs.take k ++ [⟨item, hand⟩] := by
          rw [List.take_add_one, HS.out]
          rfl
        rw [e3]
        exact hown1
      clear hown1 hgrow1 hE hown q0 q1
      go_wp2
      go_roundw
      case rel => exact ⟨k + 1, by go_num, by omega, H1.out.1, H1.out.2⟩
      case measure => simp [intOf]; omega
    · obtain rfl : k = rs.length := by omega
      clear hb ko
      go_wp2
      go_ret
      have hE := HE.out
      rw [List.take_length] at hE
      exact ⟨rfl, hE.2, hE.1⟩
theorem RightS.rise' {rs : List Stk} (h : RightS rs) : RiseS rs := h.pair
theorem RightS.small {rs : List Stk} (h : RightS rs) : ∀ x ∈ rs, x.item.size ≤ 12 := fun x hx => (nameB_sizes (h.ok x hx).n).2
end Go.Proofs.YtjmkdpnoihpfoaaGreatDoor
