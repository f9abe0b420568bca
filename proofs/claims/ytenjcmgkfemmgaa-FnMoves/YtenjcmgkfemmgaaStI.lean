/- Contract of the program's stocksOf. -/
import Derived.Test.YtenjcmgkfemmgaaMvP
import Derived.Test.YtenjcmgkfemmgaaShKeyS
import Derived.Test.YtenjcmgkfemmgaaAppSt
import Derived.Test.YtenjcmgkfemmgaaShClone
import Derived.Deep.RegionLaw
import Derived.Deep.RegionHeld3
import Derived.Deep.AppendLies
import Derived.Sort.Walk0
namespace Go.Proofs.Ytenjcmgkfemmgaa
open Go.ChangeShapes Go.WideShapes Go.ChangeAt Go.RowKit
theorem ownsRow_down {W : World} {base base' : Nat} {e : TypeId} {size : Nat} {v : Value} {k : Nat} {xs : List Value} (h : W.ownsRow base e size v k xs) (hb : base' ≤ base) : W.ownsRow base' e size v k xs := by
  obtain ⟨h1, h2⟩ := h
  refine ⟨h1, ?_⟩
  rcases h2 with h2 | ⟨g, cap, cur, e1, h3, h4⟩
  · exact .inl h2
  · exact .inr ⟨g, cap, cur, e1, by omega, h4⟩
theorem undrewS {a b : World} (h : Below a.drew.heap.size a.drew b) : Below a.heap.size a b := (Below.refl _ _).drew.trans h
theorem keys_mapS : ∀ l : List Stk, Go.strKeys (mapS l) = l.map fun s => s.item.data.toList
  | [] => rfl
  | s :: r => by
    have := keys_mapS r
    simp only [Go.strKeys, mapS, List.map_cons] at this ⊢
    rw [this]
    rfl
theorem le_iff (x y : List UInt8) : decide (x ≤ y) = !Op.bytesLess y x := by
  rw [bytesLess_eq]
  by_cases h : x ≤ y
  · simp [h, List.not_lt.2 h]
  · simp [h, List.not_le.1 h]
theorem sorted_riseS {l : List Stk} (h : RiseS l) {ss : List (List UInt8)} (hp : ss.Perm (l.map fun s => s.item.data.toList)) : ss.mergeSort (fun x y => decide (x ≤ y)) = l.map fun s => s.item.data.toList := by
  refine List.Perm.eq_of_pairwise (le := fun x y => decide (x ≤ y) = true) (fun a b _ _ h1 h2 => ?_) (List.pairwise_mergeSort (fun a b c h1 h2 => ?_) (fun a b => ?_) ss) ?_ ((List.mergeSort_perm _ _).trans hp)
  · simp only [decide_eq_true_eq] at h1 h2
    exact List.le_antisymm h1 h2
  · simp only [decide_eq_true_eq] at h1 h2 ⊢
    exact List.le_trans h1 h2
  · simp only [Bool.or_eq_true, decide_eq_true_eq]
    exact List.le_total a b
  · rw [List.pairwise_map]
    refine h.imp fun {a b} hab => ?_
    rw [le_iff]
    have : Op.bytesLess a.item.toList b.item.toList = true := hab
    rw [ByteArray.toList_eq, ByteArray.toList_eq] at this
    rw [bl_asymm this]
    rfl
theorem encStr_item (t : ByteArray) : encStr t.data.toList = .string t := by simp [encStr]
theorem keys_rowS {W : World} {base : Nat} {v : Value} {ss : List (List UInt8)} {l : List Stk} (h : W.ownsRow base 9 1 v ss.length ((ss.mergeSort (fun x y => decide (x ≤ y))).map encStr)) (hp : ss.Perm (l.map fun s => s.item.data.toList)) (hr : RiseS l) :
    ∃ A C, v = .slice A l.length C ∧ (l ≠ [] → ∃ g, A = some ⟨g, 0, none⟩ ∧ base ≤ g ∧ ∀ (i : Nat) (s : Stk), l[i]? = some s → W.cell? ⟨g, i, none⟩ = some (.string s.item)) := by
  have hlen : ss.length = l.length := by rw [hp.length_eq, List.length_map]
  rw [sorted_riseS hr hp, hlen] at h
  rcases h.2 with ⟨rfl, h0⟩ | ⟨g, cap, cur, rfl, hb, hh, hc, hm, hs, ht⟩
  · exact ⟨none, 0, by rw [h0], fun hn => absurd (List.eq_nil_of_length_eq_zero h0) hn⟩
  · refine ⟨_, _, rfl, fun _ => ⟨g, rfl, hb, fun i s hi => ?_⟩⟩
    have hlt := (List.getElem?_eq_some_iff.1 hi).1
    have e : (cur.toList.take (l.length * 1))[i]? = some (.string s.item) := by
      rw [ht, List.getElem?_map, List.getElem?_map, hi, ← encStr_item]
      rfl
    rw [List.getElem?_take_of_lt (by omega), Array.getElem?_toList] at e
    simp [World.cell?, hh, e]
theorem findS_mem {l : List Stk} (h : RiseS l) {s : Stk} (hs : s ∈ l) : findS s.item l = some s := by
  induction l with
  | nil => cases hs
  | cons y r ih =>
    obtain ⟨h1, h2⟩ := List.pairwise_cons.1 h
    unfold findS at ih ⊢
    rcases List.mem_cons.1 hs with rfl | hs'
    · simp
    · have hlt := befS_nm (h1 s hs')
      rw [List.find?_cons_of_neg (by rw [show (y.item.toList == s.item.toList) = false from hlt]; simp)]
      exact ih h2 hs'
set_option maxRecDepth 20000 in
set_option maxHeartbeats 8000000 in
theorem stocksOf_any (b n : Nat) (l : List Stk) (w : World) (h : w.ownsMap Try.prog 9 rdZ b n (mapS l)) (hl : l.length ≤ 101) (hr : RiseS l) (hn : ∀ x ∈ l, x.item.size ≤ 12) : Calls Try.prog 23 #[.map (some b)] w fun e w' => ∃ v, e = .returned v ∧ w'.ownsRow w.heap.size 44 2 v l.length (clSts l) ∧ Below w.heap.size w w' := by
  obtain ⟨j0, hj0i, hi0, hi1, hi2⟩ := info_parts infoStA
  go_enter Try.func23, Try.ntmps23
  go_wp2_with fail
  refine (keysS_call _ _).mono ?_
  rintro e w1 ⟨rfl, rfl⟩
  have hC := sortedS_call b n (mapS l) rdZ _ h (by simp [Maps.size, mapS, maxLen]; omega) (by simp [Maps.size, mapS]; omega)
  go_wp2_with fail
  refine hC.mono ?_
  rintro e w2 ⟨v, ss, rfl, hp, hrow, hnil, hb2⟩
  rw [keys_mapS] at hp
  obtain ⟨A, C, rfl, hA⟩ := keys_rowS hrow hp hr
  clear hrow hnil hp hC
  have hb1 : Below w.heap.size w w2 := ((Below.refl _ w).alloc (Nat.le_refl _) _).trans (hb2.mono (by omega))
  have hlt2 := h.lt
  have hown2 : w2.ownsMap Try.prog 9 rdZ b n (mapS l) := by
    obtain ⟨es, clock, q1, q2, q3, q4⟩ := h
    exact ⟨es, clock, (hb1.block b hlt2).trans q1, q2, q3, q4⟩
  have HI : Hid (Below w.heap.size w w2 ∧ w2.ownsMap Try.prog 9 rdZ b n (mapS l) ∧ (∀ x ∈ l, x.item.size ≤ 12) ∧ RiseS l ∧ (l ≠ [] → ∃ g, A = some ⟨g, 0, none⟩ ∧ w.heap.size + 1 ≤ g ∧ ∀ (i : Nat) (s : Stk), l[i]? = some s → w2.cell? ⟨g, i, none⟩ = some (.string s.item))) := ⟨hb1, hown2, hn, hr, hA⟩
  clear hb1 hown2 hn hr hA h hb2
  go_wp2
  go_loopw [3, 10] (fun lv i wr => ∃ k : Nat, i = .int .i64 (k : Int) ∧ k ≤ l.length ∧ (∃ A C, lv = .slice A k C) ∧ wr.ownsRow w2.heap.size 44 2 lv k (clSts (l.take k)) ∧ Below w2.heap.size w2 wr) (fun _ i _ => l.length - (RowKit.intOf i).toNat)
  case atStart => exact ⟨0, rfl, by omega, ⟨none, 0, rfl⟩, by simpa [clSts] using World.ownsRow_nil w2 w2.heap.size 44 2, Below.refl _ _⟩
  case round =>
    obtain ⟨k, rfl, hk, ⟨A1, C1, rfl⟩, hR, hb⟩ := hrel
    by_cases hlt : k < l.length
    · have hlt' : (k : Int) < (l.length : Int) := by omega
      obtain ⟨c, hs⟩ : ∃ s, l[k]? = some s := ⟨_, List.getElem?_eq_getElem hlt⟩
      obtain ⟨g, rfl, hg1, hg2⟩ := HI.out.2.2.2.2 (by intro e; rw [e] at hlt; simp at hlt)
      have hc2 := hg2 k c hs
      have hc : wr.cell? ⟨g, k, none⟩ = some (.string c.item) := (hb.cell (cell_lt hc2)).trans hc2
      have hmem := List.mem_of_getElem? hs
      have hz := HI.out.2.2.1 c hmem
      have hmx : k + 1 ≤ maxLen := by unfold maxLen; omega
      have hown : wr.ownsMap Try.prog 9 rdZ b n (mapS l) := by
        obtain ⟨es, clock, q1, q2, q3, q4⟩ := HI.out.2.1
        exact ⟨es, clock, (hb.block b (Array.getElem?_eq_some_iff.1 q1).1).trans q1, q2, q3, q4⟩
      have HL : Hid (∀ W, Below wr.heap.size wr W → (Instr.lookup 47 (.map (some b)) (.string c.item) false).run Try.prog W = .ok (.int .i64 c.hand) W) := fun W hW => by
        have ho : W.ownsMap Try.prog 9 rdZ b n (mapS l) := by
          obtain ⟨es, clock, q1, q2, q3, q4⟩ := hown
          exact ⟨es, clock, (hW.block b (Array.getElem?_eq_some_iff.1 q1).1).trans q1, q2, q3, q4⟩
        have := lookS ho (t := c.item) (by unfold maxLen; omega)
        rw [findS_mem HI.out.2.2.2.1 hmem] at this
        exact this
      have hL0 := HL.out wr (Below.refl _ _)
      have hL1 := HL.out wr.drew (Below.refl _ _).drew
      have HC : Hid (∀ W, Below wr.heap.size wr W → W.cell? ⟨g, k, none⟩ = some (.string c.item)) := fun W hW => (hW.cell (cell_lt hc)).trans hc
      have HW : Hid (∀ W, Below wr.heap.size wr W → W.ownsRow w2.heap.size 44 2 (.slice A1 k C1) k (clSts (l.take k)) ∧ w2.heap.size ≤ W.heap.size) := fun W hW => by
        refine ⟨hR.kept (row := none) ⟨hW.os, hW.tape, hW.output, hW.size, fun j hj _ => hW.block j hj⟩ ?_, by have := hb.size; have := hW.size; omega⟩
        rcases hR.2 with ⟨e, _⟩ | ⟨g, cap, cur, e, _⟩
        · exact .inl (by rw [e]; rfl)
        · exact .inr (by rw [e]; simp [Value.ownBlock])
      have HB : Hid (some g ≠ (Value.slice A1 k C1).ownBlock) := fun e => by
        have h1 := (hR.lt g e.symm).1
        have h2 := cell_lt hc2
        have h3 : g < w2.heap.size := h2
        omega
      have HG : Hid (Below w2.heap.size w2 wr ∧ l[k]? = some c) := ⟨hb, hs⟩
      clear hs hc2 hg2 hown hR hb hmem
      go_upto_region 5 with fail
      go_region_held3 (fun W => W.cell? ⟨g, k, none⟩ = some (.string c.item)) (go_keep) (first | (go_at_call 33; refine (clone_any _ _ (by omega)).mono ?_; rintro e wa ⟨rfl, hba⟩; have ba : Below wr.heap.size wr wa := (by first | exact hba | exact undrewS hba); have bd : Below wr.heap.size wr (wa.alloc (.cells #[.string c.item, .int .i64 c.hand] 44)) := ba.alloc ba.size _; have HD : Hid (Below wr.heap.size wr (wa.alloc (.cells #[.string c.item, .int .i64 c.hand] 44))) := bd; have rowN := (HW.out _ bd).1; have hLa := HL.out wa ba; have hLb := HL.out wa.drew ba.drew; have a0 := HC.out wa ba; have f0 := HC.out _ bd; have szN := (HW.out _ ba).2; clear hba bd; try dsimp only) | (refine step_append_lies _ (by rfl) _ _ _ (by rfl) w2.heap.size 44 j0 _ 2 24 Try.underlying23 hj0i hi0 hi1 hi2 rfl (by omega) (.slice A1 k C1) k (clSts (l.take k)) (by rfl) (by first | exact rowN | exact rowN.drew) ⟨wa.heap.size, 0, none⟩ 1 1 (clSt c) (by rfl) (by rfl) (World.news_of_block (cs := #[.string c.item, .int .i64 c.hand]) (t := 44) (fr := (0, 0)) (by first | exact World.alloc_heap_new wa _)) (by simp [Value.oneCell', clSt]) (by omega) hmx (by omega) (by simp; omega) (wa.heap.size + 1) (by simp) ?_; intro gg cap w4 hown4 hgrow hat4 hlt4; have u0 := hgrow.cell (HC.out _ HD.out) HB.out; try dsimp only))
      all_goals
        rename_i hHeld
        clear hHeld
        have e3 : l.take (k + 1) = l.take k ++ [c] := by
          rw [List.take_add_one, HG.out.2]
          rfl
        have H4 : Hid (w4.ownsRow w2.heap.size 44 2 (.slice (some ⟨gg, 0, none⟩) (k + 1) cap) (k + 1) (clSts (l.take (k + 1))) ∧ Below w2.heap.size w2 w4) := by
          have hbd := HG.out.1.trans (HD.out.mono HG.out.1.size)
          have hg4 : (wa.alloc (.cells #[.string c.item, .int .i64 c.hand] 44)).grownBy w4 (Value.slice A1 k C1).ownBlock := hgrow
          refine ⟨by rw [e3, clSts_app]; exact hown4, hbd.trans ⟨hg4.os, hg4.tape, hg4.output, hg4.size, fun q hq => hg4.block q (by have := hbd.size; omega) (fun e => ?_)⟩⟩
          have := ((HW.out _ HD.out).1.lt q e.symm).1
          omega
        clear hown4 hgrow hat4 hlt4 u0 rowN szN hL0 hL1 hLa hLb
        try go_wp2
        exact ⟨⟨k + 1, by go_num, by omega, ⟨_, _, rfl⟩, H4.out.1, H4.out.2⟩, by simp [RowKit.intOf]; omega⟩
    · obtain rfl : k = l.length := by omega
      have HF : Hid (wr.ownsRow w2.heap.size 44 2 (.slice A1 l.length C1) l.length (clSts l) ∧ Below w2.heap.size w2 wr) := by
        rw [List.take_length] at hR
        exact ⟨hR, hb⟩
      clear hR hb
      go_wp2
      go_ret
      exact ⟨_, rfl, ownsRow_down HF.out.1 HI.out.1.size, HI.out.1.trans (HF.out.2.mono HI.out.1.size)⟩
end Go.Proofs.Ytenjcmgkfemmgaa
