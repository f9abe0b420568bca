/- Texts of ours put together: PiR. -/
import Derived.Test.YtcdebinldmblkaaGreatDoorG23
import Derived.Test.YtcdebinldmblkaaGreatDoorG26
namespace Go.Proofs.YtcdebinldmblkaaGreatDoor
open Go.ChangeShapes Go.WideShapes Go.ChangeAt Go.RowKit
set_option maxRecDepth 20000 in
set_option maxHeartbeats 8000000 in
theorem otherwise_any (v v' : Value) (gs : List Seg) (w : World) (h : RowG w v gs) (h' : RowG w v' gs) (hl : gs.length ≤ 1000) (hE : ∀ g ∈ gs, g.2.length ≤ 1000) : Calls Tryz.prog 62 #[v, v'] w fun e w' => e = .returned (.int .i64 (-1)) ∧ Below w.heap.size w w' := by
  obtain ⟨A, C, rfl⟩ := h.val
  obtain ⟨A', C', rfl⟩ := h'.val
  have H0 : Hid (RowG w (.slice A gs.length C) gs ∧ RowG w (.slice A' gs.length C') gs) := ⟨h, h'⟩
  clear h h'
  go_enter Tryz.func62, Tryz.ntmps62
  go_wp2_with fail
  go_loopw [9] (fun i wr => ∃ k : Nat, i = .int .i64 (k : Int) ∧ k ≤ gs.length ∧ Below w.heap.size w wr) (fun i _ => gs.length - (intOf i).toNat)
  case atStart => exact ⟨0, rfl, by omega, Below.refl _ _⟩
  case round =>
    obtain ⟨k, rfl, hk, hb⟩ := hrel
    by_cases hlt : k < gs.length
    · have hlt' : (k : Int) < (gs.length : Int) := by omega
      obtain ⟨b1, o1, c1, g, u1, e1, hs1, p0, p1, hE1, _⟩ := (H0.out.1.below hb).at hlt
      simp only [Value.slice.injEq, true_and] at e1
      obtain ⟨rfl, rfl⟩ := e1
      obtain ⟨b2, o2, c2, g2, u2, e2, hs2, r0, r1, hE2, _⟩ := (H0.out.2.below hb).at hlt
      simp only [Value.slice.injEq, true_and] at e2
      obtain ⟨rfl, rfl⟩ := e2
      rw [hs1] at hs2
      cases hs2
      obtain ⟨A1, C1, rfl⟩ := hE1.val
      obtain ⟨A2, C2, rfl⟩ := hE2.val
      have hel := hE g (List.mem_of_getElem? hs1)
      obtain ⟨W1, hW1⟩ : ∃ W1, wr.alloc (.cells #[.string g.1, .slice A2 g.2.length C2] 46) = W1 := ⟨_, rfl⟩
      have bw : Below wr.heap.size wr W1 := by rw [← hW1]; exact (Below.refl _ _).alloc (Nat.le_refl _) _
      have y1 : W1.heap[wr.heap.size]? = some (.cells #[.string g.1, .slice A2 g.2.length C2] 46) := by rw [← hW1]; exact World.alloc_heap_new _ _
      obtain ⟨s0, s1, _⟩ := sbox' y1
      have p1' := (bw.cell (cell_lt p1)).trans p1
      obtain ⟨X, hX⟩ : ∃ X, X = wr.heap.size := ⟨_, rfl⟩
      rw [← hX] at s0 s1
      have HB : Hid (Below w.heap.size w W1) := hb.trans (bw.mono hb.size)
      clear hb hE1 hE2 hs1 y1 bw
      go_upto_region 4 with fail
      try rw [hW1]
      try rw [← hX]
      clear hW1 hX p0 p1 r0 r1
      go_region_held3 (fun W => W.cell? ⟨X, 1, none⟩ = some (.slice A2 g.2.length C2) ∧ W.cell? ⟨b1, o1 + k * 2 + 1, none⟩ = some (.slice A1 g.2.length C1)) (go_keep) (fail)
      rename_i hHeld
      clear hHeld
      have HD : Hid (Below w.heap.size w W1.drew) := HB.out.trans ((Below.refl _ _).drew.mono HB.out.size)
      go_wp2
      go_roundw
      case rel => exact ⟨k + 1, by go_num, by omega, HD.out⟩
      case measure => simp [intOf]; omega
    · obtain rfl : k = gs.length := by omega
      have HB : Hid (Below w.heap.size w wr) := hb
      clear hb
      go_wp2
      go_ret
      exact ⟨rfl, HB.out⟩
set_option maxHeartbeats 4000000 in
theorem tcLong_any (n : Int) (A : Option Addr) (C : Nat) (gs : List Seg) (w : World) (hl : 400 < gs.length) (hm : gs.length ≤ 3000000) : Calls Tryz.prog 59 #[.int .i64 n, .slice A gs.length C] w fun e w' => e = .returned (tcVal (tcV n gs)) ∧ Below w.heap.size w w' := by
  have b0 : Below w.heap.size w (w.alloc (.cells #[.int .i64 0, .int .i64 0, .int .i64 0] 79)) := (Below.refl _ _).alloc (Nat.le_refl _) _
  have hl' : (400 : Int) < (gs.length : Int) := by omega
  rw [tcV_big hl]
  go_enter Tryz.func59, Tryz.ntmps59
  go_wp2
  exact bodyPost_ret (v := tcVal (0, 0, 2)) (by simp [results, Tryz.results59, go_sem, tcVal]) rfl ⟨rfl, by first | exact b0 | exact (Below.refl _ _).alloc (Nat.le_refl _) _⟩
theorem hd_bd1 {tag : ByteArray} {ws : List ByteArray} (ht : tag.size ≤ 1048576) (hl : ws.length ≤ 10) (hz : ∀ t ∈ ws, t.size ≤ 1048576) : (hdS tag ws).1.size ≤ 1048576 ∧ (hdS tag ws).2.length ≤ 10 ∧ ∀ e ∈ (hdS tag ws).2, e.length = 1 ∧ ∀ t ∈ e, t.size ≤ 1048576 := by
  refine ⟨ht, by show (ws.map fun t => [t]).length ≤ 10; rw [List.length_map]; exact hl, fun e he => ?_⟩
  obtain ⟨t, ht', rfl⟩ := List.mem_map.1 (show e ∈ ws.map fun t => [t] from he)
  exact ⟨rfl, fun x hx => by rw [List.mem_singleton.1 hx]; exact hz t ht'⟩
theorem sTag_size (k : Int) : (sTag k).size ≤ 1048576 := by
  have : (sTag k).size = 3 := by
    unfold sTag
    split
    · rfl
    · split <;> rfl
  omega
theorem body_bd1 {p : Pap} (hI : PapI p) (hB : BdP 1048576 p) : Bd1 (bodyW wordsI p) := by
  obtain ⟨h1, h2, h3, h4⟩ := hB
  intro g hg
  unfold bodyW at hg
  rcases List.mem_cons.1 hg with rfl | hg
  · exact hd_bd1 (by decide) (by have := docW_len p; omega) (docW_bd hI.1 ⟨h1, h2⟩)
  · rcases List.mem_append.1 hg with hg | hg
    · obtain ⟨t, ht, rfl⟩ := List.mem_map.1 hg
      obtain ⟨i, hi⟩ := List.getElem?_of_mem ht
      exact hd_bd1 (by decide) (by simp) (fun x hx => by rw [List.mem_singleton.1 hx]; exact h3.2 i t hi)
    · obtain ⟨l, hl, rfl⟩ := List.mem_map.1 hg
      obtain ⟨i, hi⟩ := List.getElem?_of_mem hl
      obtain ⟨q1, q2⟩ := wordsI_bd (k := p.kind) (hI.2 l hl) (h4.2 i l hi)
      exact hd_bd1 (sTag_size _) (by omega) q2
theorem Bd1.bdG {gs : List Seg} (h : Bd1 gs) (hl : gs.length ≤ 1048576) : BdG 1048576 gs := by
  refine ⟨hl, fun i g hi => ?_⟩
  obtain ⟨h1, h2, h3⟩ := h g (List.mem_of_getElem? hi)
  refine ⟨h1, by omega, fun j e he => ?_⟩
  obtain ⟨k1, k2⟩ := h3 e (List.mem_of_getElem? he)
  exact ⟨by omega, fun m t ht => k2 t (List.mem_of_getElem? ht)⟩
theorem OwnL.cap {n₀ : Nat} {W : World} {v : Value} {ps : List (Value × List Value)} {gs : List Seg} (h : OwnL n₀ W v ps gs) : CapL v gs.length := by
  rcases h.row.2 with ⟨rfl, h0⟩ | ⟨g, cap, cur, rfl, _, _, hc, hm, _⟩
  · exact ⟨none, 0, by rw [h0], by omega, by unfold maxLen; omega⟩
  · exact ⟨_, cap, rfl, hc, hm⟩
end Go.Proofs.YtcdebinldmblkaaGreatDoor
