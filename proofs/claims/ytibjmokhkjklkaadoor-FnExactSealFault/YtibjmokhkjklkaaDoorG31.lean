/- Texts of ours put together: SlS1. -/
import Derived.Test.YtibjmokhkjklkaaDoorG27
import Derived.Test.YtibjmokhkjklkaaDoorG28
import Derived.Test.YtibjmokhkjklkaaDoorG29
import Derived.Test.YtibjmokhkjklkaaDoorG22
import Derived.Test.YtibjmokhkjklkaaDoorG30
import Derived.Test.YtibjmokhkjklkaaDoorG10
namespace Go.Proofs.YtibjmokhkjklkaaDoor
open Go.ChangeShapes Go.WideShapes Go.ChangeAt Go.RowKit
theorem bx1Z {W : World} {b t : Nat} {x : Value} (h : W.heap[b]? = some (.cells #[x] t)) : W.cell? ⟨b, 0, none⟩ = some x := by
  simp [World.cell?, h]
set_option maxHeartbeats 8000000 in
theorem l19Right_any (v : Value) (rs : List EvR) (w : World) (h : RowEv w v rs) : Calls Tryd.prog 22 #[v] w fun e w' => e = .returned (.bool (okE rs)) ∧ Below w.heap.size w w' := by
  obtain ⟨A, cap, rfl⟩ := h.val
  have hlen := h.len
  have H1 : Hid (RowEv w (.slice A rs.length cap) rs) := h
  clear h
  go_enter Tryd.func22, Tryd.ntmps22
  by_cases hg : rs.length ≤ 60
  case neg =>
    have hg' : (rs.length : Int) > 60 := by omega
    have HN : Hid (okE rs = false) := okE_long hg
    go_wp2
    go_ret
    exact ⟨by rw [HN.out]; rfl, Below.refl _ _⟩
  have hg' : ¬ (rs.length : Int) > 60 := by omega
  go_wp2_with fail
  go_loopw [3] (fun ix wr => ∃ k : Nat, ix = .int .i64 (k : Int) ∧ k ≤ rs.length ∧ (∀ i c, i < k → rs[i]? = some c → evB c = true) ∧ Below w.heap.size w wr) (fun ix _ => rs.length - (intOf ix).toNat)
  case atStart => exact ⟨0, rfl, by omega, fun i c hi => by omega, Below.refl _ _⟩
  case round =>
    obtain ⟨k, rfl, hk, hok, hb⟩ := hrel
    by_cases hlt : k < rs.length
    · have hlt' : (k : Int) < (rs.length : Int) := by omega
      obtain ⟨b, o, cap', l, e, hs, ⟨p0, p1, p2, p3⟩, hz⟩ := (H1.out.below hb).at hlt
      simp only [Value.slice.injEq, true_and] at e
      obtain ⟨rfl, rfl⟩ := e
      have HI : Hid ((∀ i c, i < k → rs[i]? = some c → evB c = true) ∧ rs[k]? = some l ∧ Below w.heap.size w wr) := ⟨hok, hs, hb⟩
      have QR := eventRight_spec l
      obtain ⟨x, hx⟩ : ∃ x, x = evB l := ⟨_, rfl⟩
      have HX : Hid (x = evB l) := hx
      rw [← hx] at QR
      clear hs hz hb hok hx
      go_wp2_with fail
      refine (QR _).mono ?_
      rintro e w2 ⟨rfl, hb2⟩
      have HB : Hid (Below w.heap.size w w2) := HI.out.2.2.trans (hb2.mono HI.out.2.2.size)
      clear p0 p1 p2 p3 hb2 QR
      cases x with
      | false =>
        have HE : Hid (okE rs = false) := okE_no (allE_at HI.out.2.1 HX.out.symm)
        go_wp2
        go_ret
        exact ⟨by rw [HE.out]; rfl, HB.out⟩
      | true =>
        have HS : Hid (∀ i c, i < k + 1 → rs[i]? = some c → evB c = true) := fun i c hi hc => by
          by_cases g : i = k
          · subst g
            rw [HI.out.2.1] at hc
            cases hc
            exact HX.out.symm
          · exact HI.out.1 i c (by omega) hc
        go_wp2
        go_roundw
        case rel => exact ⟨k + 1, by go_num, by omega, HS.out, HB.out⟩
        case measure => simp [intOf]; omega
    · have HE : Hid (okE rs = true ∧ Below w.heap.size w wr) := ⟨okE_yes hg (allE_yes fun i c hi hc => hok i c (by omega) hc), hb⟩
      have hlt' : ¬ (k : Int) < (rs.length : Int) := by omega
      clear hok hb
      go_wp2
      go_ret
      exact ⟨by rw [HE.out.1]; rfl, HE.out.2⟩
set_option maxHeartbeats 8000000 in
theorem sealChain_spec (v : Value) (rs : List EvR) (w : World) (h : RowEv w v rs) :
    Calls Tryd.prog 7 #[v] w fun e w' => ∃ u, e = .returned u ∧ w'.ownsRow w.heap.size 2 1 u (chainT rs).length ((chainT rs).map (Value.int .i64)) ∧ Below w.heap.size w w' := by
  obtain ⟨A, Cp, rfl⟩ := h.val
  have hlen := h.len
  obtain ⟨W0, hW0⟩ : ∃ W0, w.alloc (.cells #[] 2) = W0 := ⟨_, rfl⟩
  have hb0 : Below w.heap.size w W0 := by rw [← hW0]; exact (Below.refl _ _).alloc (Nat.le_refl _) _
  have ho0 := own0N w (B := w.heap.size) (Nat.le_refl _)
  rw [hW0] at ho0
  have H0 : Hid (RowEv w (.slice A rs.length Cp) rs ∧ Below w.heap.size w W0 ∧ W0.ownsRow w.heap.size 2 1 (.slice (some ⟨w.heap.size, 0, none⟩) 0 0) 0 []) := ⟨h, hb0, ho0⟩
  have Q := l19Right_any (.slice A rs.length Cp) rs W0 (h.below hb0)
  obtain ⟨y, hy⟩ : ∃ y, y = okE rs := ⟨_, rfl⟩
  have HY : Hid (y = okE rs) := hy
  rw [← hy] at Q
  clear h hy hb0 ho0
  go_enter Tryd.func7, Tryd.ntmps7
  go_upto_region 2 with fail
  try rw [hW0]
  clear hW0
  go_wp2_with fail
  refine Q.mono ?_
  rintro e w1 ⟨rfl, hb1⟩
  have H1 : Hid (Below w.heap.size w w1 ∧ w1.ownsRow w.heap.size 2 1 (.slice (some ⟨w.heap.size, 0, none⟩) 0 0) 0 []) := ⟨H0.out.2.1.trans (hb1.mono H0.out.2.1.size), own1_below H0.out.2.2 hb1⟩
  clear hb1 Q
  cases y with
  | false =>
    have HN : Hid (chainT rs = []) := chainT_no HY.out.symm
    go_wp2
    go_ret
    exact ⟨_, rfl, by rw [HN.out]; exact H1.out.2, H1.out.1⟩
  | true =>
  have HN : Hid (chainT rs = chainZ 1 rs ∧ rs.length ≤ 60 ∧ ∀ c ∈ rs, evB c = true) := ⟨chainT_yes HY.out.symm, okE_parts HY.out.symm⟩
  have hl60 := HN.out.2.1
  clear HY
  go_wp2_with fail
  go_loopw [3, 4, 5] (fun lv x i wr => ∃ k : Nat, i = .int .i64 (k : Int) ∧ k ≤ rs.length ∧ x = .int .i64 (numZ rs k) ∧ (∃ A C ts, ts = chainZ 1 (rs.take k) ∧ lv = .slice A ts.length C ∧ wr.ownsRow w.heap.size 2 1 lv ts.length (ts.map (Value.int .i64))) ∧ Hid (Below w.heap.size w wr)) (fun _ _ i _ => rs.length - (intOf i).toNat)
  case atStart => exact ⟨0, rfl, by omega, by simp [numZ, chainZ], ⟨some ⟨w.heap.size, 0, none⟩, 0, [], by simp [chainZ], rfl, H1.out.2⟩, H1.out.1⟩
  case round =>
    obtain ⟨k, rfl, hk, rfl, ⟨A1, C1, ts, hts, rfl, hR⟩, HW⟩ := hrel
    have htl : ts.length ≤ 60 := by rw [hts, chainZ_len, List.length_take]; omega
    have HTs : Hid (ts = chainZ 1 (rs.take k)) := hts
    clear hts
    obtain ⟨z, hz⟩ : ∃ z, z = numZ rs k := ⟨_, rfl⟩
    have HZ : Hid (z = numZ rs k) := hz
    rw [← hz]
    clear hz
    by_cases hlt : k < rs.length
    · have hlt' : (k : Int) < (rs.length : Int) := by omega
      obtain ⟨b, o, cap', l, e, hs, ⟨q0, q1, q2, q3⟩, _⟩ := (H0.out.1.below HW.out).at hlt
      simp only [Value.slice.injEq, true_and] at e
      obtain ⟨rfl, rfl⟩ := e
      have hok := HN.out.2.2 l (List.mem_of_getElem? hs)
      have hsz := evX_size hok
      have Q1 := l16Text_any l (evB_iff.1 hok)
      obtain ⟨t, ht⟩ : ∃ t, t = evX l := ⟨_, rfl⟩
      rw [← ht] at Q1 hsz
      obtain ⟨y, hy⟩ : ∃ y, y = sealT z t := ⟨_, rfl⟩
      have Q2 := fun W => sealSum_spec z t W (by omega)
      rw [← hy] at Q2
      have HE : Hid (numZ rs (k + 1) = y ∧ chainZ 1 (rs.take (k + 1)) = ts ++ [y]) := by
        rw [hy, HZ.out, ht]
        refine ⟨numZ_next hs, ?_⟩
        rw [chainZ_next 1 hs]
        unfold numZ
        rw [← HTs.out]
      have HR : Hid (wr.ownsRow w.heap.size 2 1 (.slice A1 ts.length C1) ts.length (ts.map (Value.int .i64))) := hR
      clear hok ht hy hs hR
      go_wp2_with fail
      refine (Q1 _).mono ?_
      rintro e w2 ⟨rfl, hb2⟩
      have H2 : Hid (Below wr.heap.size wr w2) := hb2
      clear hb2 q0 q1 q2 q3 Q1
      go_wp2_with fail
      refine (Q2 _).mono ?_
      rintro e w3 ⟨rfl, hb3⟩
      have H3 : Hid (Below wr.heap.size wr w3 ∧ Below w.heap.size w w3) := ⟨H2.out.trans (hb3.mono H2.out.size), HW.out.trans ((H2.out.trans (hb3.mono H2.out.size)).mono HW.out.size)⟩
      clear hb3 Q2
      have hsz3 := H3.out.2.size
      have hrow := (own1_below HR.out H3.out.1).alloc (.cells #[.int .i64 y] 2)
      have hcell := (bx1Z (World.alloc_heap_new w3 (.cells #[.int .i64 y] 2)))
      go_wp2_with (first | (at_builtin; refine wpList_appN rfl _ _ rfl rfl rfl hrow hcell (by omega) (by simp; omega) ?_; rintro v4 w4 hown4 hgrow4 ⟨A4, C4, rfl⟩))
      have H4 : Hid (w4.ownsRow w.heap.size 2 1 (.slice A4 (ts.length + 1) C4) (ts ++ [y]).length ((ts ++ [y]).map (Value.int .i64)) ∧ Below w.heap.size w w4) := ⟨hown4, appN_below H3.out.2 (Nat.le_refl _) (own1_below HR.out H3.out.1) hgrow4⟩
      clear hown4 hgrow4 hrow hcell
      go_wp2
      go_roundw
      case rel => exact ⟨k + 1, by go_num, by omega, by rw [HE.out.1], ⟨A4, C4, ts ++ [y], HE.out.2.symm, by simp, by simpa using H4.out.1⟩, H4.out.2⟩
      case measure => simp [intOf]; omega
    · obtain rfl : k = rs.length := by omega
      have HF : Hid (wr.ownsRow w.heap.size 2 1 (.slice A1 ts.length C1) ts.length (ts.map (Value.int .i64)) ∧ ts = chainT rs) := by
        refine ⟨hR, ?_⟩
        rw [HTs.out, List.take_length, HN.out.1]
      clear hR
      go_wp2
      go_ret
      refine ⟨_, rfl, ?_, HW.out⟩
      rw [← HF.out.2]
      exact HF.out.1
end Go.Proofs.YtibjmokhkjklkaaDoor
