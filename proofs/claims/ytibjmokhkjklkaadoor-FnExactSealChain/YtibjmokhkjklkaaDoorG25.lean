/- Texts of ours put together: SlF. -/
import Derived.Test.YtibjmokhkjklkaaDoorG21
import Derived.Test.YtibjmokhkjklkaaDoorG22
import Derived.Test.YtibjmokhkjklkaaDoorG23
import Derived.Test.YtibjmokhkjklkaaDoorG24
namespace Go.Proofs.YtibjmokhkjklkaaDoor
open Go.ChangeShapes Go.WideShapes Go.ChangeAt Go.RowKit
theorem own_lower {W : World} {n m K T len : Nat} {v : Value} {xs : List Value} (h : W.ownsRow n T K v len xs) (hm : m ≤ n) : W.ownsRow m T K v len xs := by
  refine ⟨h.1, ?_⟩
  rcases h.2 with g | ⟨b, cap, cur, e, hb, hr⟩
  · exact .inl g
  · exact .inr ⟨b, cap, cur, e, Nat.le_trans hm hb, hr⟩
theorem own_keepS {W W' : World} {n K T B N len : Nat} {v : Value} {xs : List Value} (h : W.ownsRow n T K v len xs) (hk : KeepS B N W W') (h1 : B < n) (h2 : N < n) : W'.ownsRow n T K v len xs := by
  refine ⟨h.1, ?_⟩
  rcases h.2 with g | ⟨b, cap, cur, e, hb, hh, hr⟩
  · exact .inl g
  · exact .inr ⟨b, cap, cur, e, hb, (hk.block b (Array.getElem?_eq_some_iff.1 hh).1 (by omega) (by omega)).trans hh, hr⟩
set_option maxRecDepth 20000 in
set_option maxHeartbeats 8000000 in
theorem sealChain_impl (v : Value) (rs : List EvR) (w : World) (h : RowEv w v rs) (hw : WrdAt w) :
    Calls Tryd.prog 9 #[v] w fun e w' => ∃ u, e = .returned u ∧ w'.ownsRow w.heap.size 2 1 u (chainT rs).length ((chainT rs).map (Value.int .i64)) ∧ Below w.heap.size w w' := by
  obtain ⟨A, Cp, rfl⟩ := h.val
  have hlen := h.len
  have h0 : w.heap.size ≠ 0 := by
    have := World.block_lt_of_cell? _ _ (hw 0 (by omega))
    omega
  have H0 : Hid (RowEv w (.slice A rs.length Cp) rs ∧ WrdAt w ∧ w.heap.size ≠ 0) := ⟨h, hw, h0⟩
  have Q : Calls Tryd.prog 25 #[.slice A rs.length Cp] w fun e w' => e = .returned (.bool (okE rs)) ∧ Below w.heap.size w w' := eventsRight_any (.slice A rs.length Cp) rs w h
  obtain ⟨y, hy⟩ : ∃ y, y = okE rs := ⟨_, rfl⟩
  have HY : Hid (y = okE rs) := hy
  rw [← hy] at Q
  clear h hw hy h0
  go_enter Tryd.func9, Tryd.ntmps9
  go_wp2_with fail
  refine Q.mono ?_
  rintro e w1 ⟨rfl, hb1⟩
  have H1 : Hid (Below w.heap.size w w1) := hb1
  clear hb1 Q
  cases y with
  | false =>
    have HN : Hid (chainT rs = []) := chainT_no HY.out.symm
    go_wp2
    go_ret
    exact ⟨_, rfl, by rw [HN.out]; exact World.ownsRow_nil _ _ _ _, H1.out⟩
  | true =>
  have HN : Hid (chainT rs = chainZ 1 rs ∧ rs.length ≤ 60 ∧ ∀ c ∈ rs, evB c = true) := ⟨chainT_yes HY.out.symm, okE_parts HY.out.symm⟩
  have hl60 := HN.out.2.1
  clear HY
  go_wp2_with fail
  refine (sealsFrom_any 1 w1).mono ?_
  rintro e w2 ⟨r, B, N, S, rfl, hS, hb2, hB, hN, hN2, hS2⟩
  have hsz1 := H1.out.size
  have H2 : Hid (Sl r B N S (numZ rs 0) w2 ∧ Below w.heap.size w w2 ∧ N < w2.heap.size ∧ S < w2.heap.size ∧ B < w2.heap.size ∧ w.heap.size ≤ B ∧ w.heap.size ≤ N) := by
    have hS' := hS (by have := H0.out.2.2; omega)
    refine ⟨?_, H1.out.trans (hb2.mono H1.out.size), hN2, hS2, hS'.lt, by omega, by omega⟩
    have e : numZ rs 0 = 1 := by simp [numZ, chainZ]
    rw [e]
    exact hS'
  obtain ⟨n1, hn1⟩ : ∃ n1, n1 = w2.heap.size := ⟨_, rfl⟩
  have HN1 : Hid (n1 = w2.heap.size) := hn1
  clear hS hb2 hB hN hN2 hS2 hsz1 hn1
  go_wp2_with fail
  go_loopw [3, 13] (fun lv i wr => ∃ k : Nat, i = .int .i64 (k : Int) ∧ k ≤ rs.length ∧ (∃ A C ts, ts = chainZ 1 (rs.take k) ∧ lv = .slice A ts.length C ∧ wr.ownsRow n1 2 1 lv ts.length (ts.map (Value.int .i64))) ∧ Hid (Sl r B N S (numZ rs k) wr ∧ Below w.heap.size w wr ∧ n1 ≤ wr.heap.size)) (fun _ i _ => rs.length - (intOf i).toNat)
  case atStart => exact ⟨0, rfl, by omega, ⟨none, 0, [], by simp [chainZ], rfl, World.ownsRow_nil _ _ _ _⟩, H2.out.1, H2.out.2.1, Nat.le_of_eq HN1.out⟩
  case round =>
    obtain ⟨k, rfl, hk, ⟨A1, C1, ts, hts, rfl, hR⟩, HW⟩ := hrel
    have htl : ts.length ≤ 60 := by rw [hts, chainZ_len, List.length_take]; omega
    have HTs : Hid (ts = chainZ 1 (rs.take k)) := hts
    clear hts
    by_cases hlt : k < rs.length
    · have hlt' : (k : Int) < (rs.length : Int) := by omega
      obtain ⟨b, o, cap', l, e, hs, ⟨q0, q1, q2, q3⟩, _⟩ := (H0.out.1.below HW.out.2.1).at hlt
      simp only [Value.slice.injEq, true_and] at e
      obtain ⟨rfl, rfl⟩ := e
      obtain ⟨W1, hW1⟩ : ∃ W1, wr.alloc (.cells #[.int .i64 l.kind, .string l.a, .string l.b, .string l.c] 40) = W1 := ⟨_, rfl⟩
      have ha : Below wr.heap.size wr W1 := by rw [← hW1]; exact (Below.refl _ _).alloc (Nat.le_refl _) _
      have hbx : W1.heap[wr.heap.size]? = some (.cells #[.int .i64 l.kind, .string l.a, .string l.b, .string l.c] 40) := by rw [← hW1]; exact World.alloc_heap_new _ _
      obtain ⟨z, hz⟩ : ∃ z, z = numZ rs k := ⟨_, rfl⟩
      obtain ⟨y, hy⟩ : ∃ y, y = sealT z (evX l) := ⟨_, rfl⟩
      have HQ : Hid (Calls Tryd.prog 39 #[.agg #[.int .i64 l.kind, .string l.a, .string l.b, .string l.c], .pointer (some ⟨N, 0, none⟩), .pointer (some ⟨S, 0, none⟩)] W1 fun v w' => v = .returned (.int .i64 y) ∧ Sl r B N S y w' ∧ KeepS B N W1 w') := by
        rw [hy, hz]
        exact seal_any B N S (numZ rs k) l (evB_iff.1 (HN.out.2.2 l (List.mem_of_getElem? hs))) W1 (HW.out.1.below ha) ((H0.out.2.1.below HW.out.2.1).below ha)
      have HE : Hid (numZ rs (k + 1) = y ∧ chainZ 1 (rs.take (k + 1)) = ts ++ [y]) := by
        rw [hy, hz]
        refine ⟨numZ_next hs, ?_⟩
        rw [chainZ_next 1 hs]
        unfold numZ
        rw [← HTs.out]
      have hR1 : W1.ownsRow n1 2 1 (.slice A1 ts.length C1) ts.length (ts.map (Value.int .i64)) := by rw [← hW1]; exact hR.alloc _
      have HW1 : Hid (W1.ownsRow n1 2 1 (.slice A1 ts.length C1) ts.length (ts.map (Value.int .i64)) ∧ Below w.heap.size w W1 ∧ n1 ≤ W1.heap.size) := ⟨hR1, HW.out.2.1.trans (ha.mono HW.out.2.1.size), Nat.le_trans HW.out.2.2 ha.size⟩
      obtain ⟨x0, x1, x2, x3⟩ := bx4e hbx
      have HWW : Hid (wr.alloc (.cells #[.int .i64 l.kind, .string l.a, .string l.b, .string l.c] 40) = W1) := hW1
      clear ha hbx hy hz hs hR hR1 hW1
      go_upto_region 8 with fail
      try rw [HWW.out]
      clear HWW q0 q1 q2 q3
      go_wp2_with fail
      refine HQ.out.mono ?_
      rintro e w3 ⟨rfl, hS3, hk3⟩
      have hB1 : B < n1 ∧ N < n1 ∧ S < n1 := by have := H2.out; have := HN1.out; omega
      have hsz3 : n1 ≤ w3.heap.size := Nat.le_trans HW1.out.2.2 hk3.size
      have hrow := (own_keepS HW1.out.1 hk3 hB1.1 hB1.2.1).alloc (.cells #[.int .i64 y] 2)
      have hcell := (bx1S (World.alloc_heap_new w3 (.cells #[.int .i64 y] 2))).1
      have H3 : Hid (Sl r B N S y w3 ∧ Below w.heap.size w w3) := ⟨hS3, hk3.below HW1.out.2.1 H2.out.2.2.2.2.2.1 H2.out.2.2.2.2.2.2 HW1.out.2.1.size⟩
      clear hS3 hk3 HQ x0 x1 x2 x3
      go_wp2_with (first | (at_builtin; refine wpList_appN rfl _ _ rfl rfl rfl hrow hcell (by omega) (by simp; omega) ?_; rintro v4 w4 hown4 hgrow4 ⟨A4, C4, rfl⟩))
      have H4 : Hid (w4.ownsRow n1 2 1 (.slice A4 (ts.length + 1) C4) (ts ++ [y]).length ((ts ++ [y]).map (Value.int .i64)) ∧ Sl r B N S y w4 ∧ Below w.heap.size w w4 ∧ n1 ≤ w4.heap.size) := by
        have hal := (Below.refl w3.heap.size w3).alloc (Nat.le_refl _) (.cells #[.int .i64 y] 2)
        have ho : ∀ k, (Value.slice A1 ts.length C1).ownBlock = some k → n1 ≤ k := fun k hk => (hrow.lt k hk).1
        refine ⟨hown4, (H3.out.1.below hal).grown hgrow4 ho hB1.1 hB1.2.1 hB1.2.2, ?_, Nat.le_trans (Nat.le_trans hsz3 hal.size) hgrow4.size⟩
        have hb5 := H3.out.2.trans (hal.mono H3.out.2.size)
        refine hb5.trans ⟨hgrow4.os, hgrow4.tape, hgrow4.output, hgrow4.size, fun q hq => hgrow4.block q (Nat.lt_of_lt_of_le hq hb5.size) (fun e => ?_)⟩
        have := ho q e.symm
        have := H2.out.2.1.size
        have := HN1.out
        omega
      clear hown4 hgrow4 hrow hcell
      go_wp2
      go_roundw
      case rel => exact ⟨k + 1, by go_num, by omega, ⟨A4, C4, ts ++ [y], HE.out.2.symm, by simp, by simpa using H4.out.1⟩, by rw [HE.out.1]; exact H4.out.2.1, H4.out.2.2⟩
      case measure => simp [intOf]; omega
    · obtain rfl : k = rs.length := by omega
      have HF : Hid (wr.ownsRow n1 2 1 (.slice A1 ts.length C1) ts.length (ts.map (Value.int .i64)) ∧ ts = chainT rs) := by
        refine ⟨hR, ?_⟩
        rw [HTs.out, List.take_length, HN.out.1]
      clear hR
      go_wp2
      go_ret
      refine ⟨_, rfl, ?_, HW.out.2.1⟩
      rw [← HF.out.2]
      exact own_lower HF.out.1 (by have := H2.out.2.1.size; have := HN1.out; omega)
end Go.Proofs.YtibjmokhkjklkaaDoor
