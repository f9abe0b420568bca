/- Contract of the model's PartnerRun. -/
import Derived.Test.YtcnkjibcjleleaaRunP
import Derived.Test.YtcnkjibcjleleaaPtkS
import Derived.Test.YtcnkjibcjleleaaNewP
import Derived.Deep.RegionHeld3
import Derived.Deep.Cut
import Derived.Deep.CutRange
namespace Go.Proofs.Ytcnkjibcjleleaa
open Go.ChangeShapes Go.WideShapes Go.ChangeAt Go.RowKit
theorem cell_newS (W : World) (z : Int) : (W.alloc (.cells #[.int .i64 z] 2)).cell? ⟨W.heap.size, 0, none⟩ = some (.int .i64 z) := by simp [go_sem]
theorem set9_box {W : World} {X : Nat} {t : Tk} {u : Value} (h : W.heap[X]? = some (.cells #[.string ⟨#[]⟩, .int .i64 0, .int .i64 0, .slice none 0 0, .int .i64 0, .int .i64 0, .int .i64 0, .int .i64 0, .int .i64 0] 36)) : (((((((((W.setCell ⟨X, 0, none⟩ (.string t.p.name)).setCell ⟨X, 1, none⟩ (.int .i64 t.p.low)).setCell ⟨X, 2, none⟩ (.int .i64 t.p.next)).setCell ⟨X, 3, none⟩ u).setCell ⟨X, 4, none⟩ (.int .i64 t.kind)).setCell ⟨X, 5, none⟩ (.int .i64 t.seen.number)).setCell ⟨X, 6, none⟩ (.int .i64 t.seen.answer)).setCell ⟨X, 7, none⟩ (.int .i64 t.seen.code)).setCell ⟨X, 8, none⟩ (.int .i64 t.code)).heap[X]? = some (.cells #[.string t.p.name, .int .i64 t.p.low, .int .i64 t.p.next, u, .int .i64 t.kind, .int .i64 t.seen.number, .int .i64 t.seen.answer, .int .i64 t.seen.code, .int .i64 t.code] 36) := by
  simp [World.setCell, Array.getElem?_modify, h]
theorem undrewR {a b : World} (h : Below a.drew.heap.size a.drew b) : Below a.heap.size a b := (Below.refl _ _).drew.trans h
/-- What stands behind a taking: the told in its box X. -/
structure PX (w W : World) (Pb : Nat) (p : Ptn) (v lv : Value) (acc : List Int) (t : Tk) (u : Value) (X : Nat) : Prop where
  pq : PQ w W Pb p v lv acc
  xb : W.heap[X]? = some (.cells #[.string t.p.name, .int .i64 t.p.low, .int .i64 t.p.next, u, .int .i64 t.kind, .int .i64 t.seen.number, .int .i64 t.seen.answer, .int .i64 t.seen.code, .int .i64 t.code] 36)
  ls : ∃ b, Pb < b ∧ LSn b W u t.p.seen
  xn : X ≠ Pb
theorem meetA {w wr w3 : World} {Pb b2 : Nat} {p : Ptn} {v lv u : Value} {acc : List Int} {t : Tk} (h : PQ w wr Pb p v lv acc) (hb : Below wr.heap.size wr w3) (hl : LSn b2 w3 u t.p.seen) (hb2 : wr.heap.size ≤ b2) : PX w (w3.alloc (.cells #[.string t.p.name, .int .i64 t.p.low, .int .i64 t.p.next, u, .int .i64 t.kind, .int .i64 t.seen.number, .int .i64 t.seen.answer, .int .i64 t.seen.code, .int .i64 t.code] 36)) Pb p v lv acc t u w3.heap.size := by
  have hlt := h.lt
  have hs := hb.size
  have ha : Below w3.heap.size w3 (w3.alloc (.cells #[.string t.p.name, .int .i64 t.p.low, .int .i64 t.p.next, u, .int .i64 t.kind, .int .i64 t.seen.number, .int .i64 t.seen.answer, .int .i64 t.seen.code, .int .i64 t.code] 36)) := (Below.refl _ _).alloc (Nat.le_refl _) _
  exact ⟨(h.below hb).below ha, World.alloc_heap_new _ _, ⟨b2, by omega, hl.below ha⟩, by omega⟩
theorem meetB {w wr w3 : World} {Pb b2 : Nat} {p : Ptn} {v lv u : Value} {acc : List Int} {t : Tk} (h : PQ w wr Pb p v lv acc) (hb : Below (wr.alloc (.cells #[.string ⟨#[]⟩, .int .i64 0, .int .i64 0, .slice none 0 0, .int .i64 0, .int .i64 0, .int .i64 0, .int .i64 0, .int .i64 0] 36)).heap.size (wr.alloc (.cells #[.string ⟨#[]⟩, .int .i64 0, .int .i64 0, .slice none 0 0, .int .i64 0, .int .i64 0, .int .i64 0, .int .i64 0, .int .i64 0] 36)) w3) (hl : LSn b2 w3 u t.p.seen) (hb2 : (wr.alloc (.cells #[.string ⟨#[]⟩, .int .i64 0, .int .i64 0, .slice none 0 0, .int .i64 0, .int .i64 0, .int .i64 0, .int .i64 0, .int .i64 0] 36)).heap.size ≤ b2) : PX w (((((((((w3.setCell ⟨wr.heap.size, 0, none⟩ (.string t.p.name)).setCell ⟨wr.heap.size, 1, none⟩ (.int .i64 t.p.low)).setCell ⟨wr.heap.size, 2, none⟩ (.int .i64 t.p.next)).setCell ⟨wr.heap.size, 3, none⟩ u).setCell ⟨wr.heap.size, 4, none⟩ (.int .i64 t.kind)).setCell ⟨wr.heap.size, 5, none⟩ (.int .i64 t.seen.number)).setCell ⟨wr.heap.size, 6, none⟩ (.int .i64 t.seen.answer)).setCell ⟨wr.heap.size, 7, none⟩ (.int .i64 t.seen.code)).setCell ⟨wr.heap.size, 8, none⟩ (.int .i64 t.code)) Pb p v lv acc t u wr.heap.size := by
  have hlt := h.lt
  simp only [World.size_alloc] at hb2 hb
  have hk : w3.heap[wr.heap.size]? = some (.cells #[.string ⟨#[]⟩, .int .i64 0, .int .i64 0, .slice none 0 0, .int .i64 0, .int .i64 0, .int .i64 0, .int .i64 0, .int .i64 0] 36) := (hb.block _ (by omega)).trans (World.alloc_heap_new _ _)
  have hb' : Below wr.heap.size wr w3 := ((Below.refl _ _).alloc (Nat.le_refl _) _).trans (hb.mono (by omega))
  exact ⟨h.below (set9_below hb' (Nat.le_refl _) _ _ _ _ _ _ _ _ _), set9_box hk, ⟨b2, by omega, set9_lsn hl (by omega) _ _ _ _ _ _ _ _ _⟩, by omega⟩
theorem kp9 {W : World} {b o X : Nat} {v : Value} (h : W.cell? ⟨b, o, none⟩ = some v) (hne : b ≠ X) (x0 x1 x2 x3 x4 x5 x6 x7 x8 : Value) : (((((((((W.setCell ⟨X, 0, none⟩ x0).setCell ⟨X, 1, none⟩ x1).setCell ⟨X, 2, none⟩ x2).setCell ⟨X, 3, none⟩ x3).setCell ⟨X, 4, none⟩ x4).setCell ⟨X, 5, none⟩ x5).setCell ⟨X, 6, none⟩ x6).setCell ⟨X, 7, none⟩ x7).setCell ⟨X, 8, none⟩ x8).cell? ⟨b, o, none⟩ = some v := by
  have e : ∀ (W : World) (i : Nat) (x : Value), (W.setCell ⟨X, i, none⟩ x).cell? ⟨b, o, none⟩ = W.cell? ⟨b, o, none⟩ := fun W i x => World.cell?_of_block (Below.heap_setCell W ⟨X, i, none⟩ x b hne)
  rw [e, e, e, e, e, e, e, e, e]
  exact h
theorem boxT {W : World} {X : Nat} (h : W.heap[X]? = some (.cells #[.string ⟨#[]⟩, .int .i64 0, .int .i64 0, .slice none 0 0, .int .i64 0, .int .i64 0, .int .i64 0, .int .i64 0, .int .i64 0] 36)) : W.cell? ⟨X, 0, none⟩ = some (.string ⟨#[]⟩) ∧ W.cell? ⟨X, 1, none⟩ = some (.int .i64 0) ∧ W.cell? ⟨X, 2, none⟩ = some (.int .i64 0) ∧ W.cell? ⟨X, 3, none⟩ = some (.slice none 0 0) ∧ W.cell? ⟨X, 4, none⟩ = some (.int .i64 0) ∧ W.cell? ⟨X, 5, none⟩ = some (.int .i64 0) ∧ W.cell? ⟨X, 6, none⟩ = some (.int .i64 0) ∧ W.cell? ⟨X, 7, none⟩ = some (.int .i64 0) ∧ W.cell? ⟨X, 8, none⟩ = some (.int .i64 0) ∧ ∀ o, W.frozen? ⟨X, o, none⟩ = false := by
  refine ⟨?_, ?_, ?_, ?_, ?_, ?_, ?_, ?_, ?_, fun o => ?_⟩ <;> simp [World.cell?, World.frozen?, h]
set_option maxHeartbeats 8000000 in
theorem run_spec (name : ByteArray) (v : Value) (zs : List Int) (w : World) (h : RowN w v zs) (hnm : name.size ≤ 9223372036854775807) : Calls Try.prog 6 #[.string name, v] w fun e w' => ∃ u, e = .returned u ∧ RowN w' u (runL name zs) ∧ Below w.heap.size w w' := by
  have hlen := h.len
  obtain ⟨A, C, rfl⟩ := h.val
  have b0 : Below w.heap.size w (w.alloc (.cells #[] 2)) := (Below.refl _ _).alloc (Nat.le_refl _) _
  have HR : Hid (RowN w (.slice A zs.length C) zs ∧ Below w.heap.size w (w.alloc (.cells #[] 2))) := ⟨h, b0⟩
  have HM : Hid ((w.alloc (.cells #[] 2)).ownsRow w.heap.size 2 1 (.slice (some ⟨w.heap.size, 0, none⟩) 0 0) ([] : List Int).length (([] : List Int).map (Value.int .i64))) := ⟨rfl, .inr ⟨_, 0, #[], rfl, Nat.le_refl _, World.alloc_heap_new _ _, Nat.le_refl _, by simp [maxLen], rfl, rfl⟩⟩
  clear h b0
  have HNO : Hid (okRun name zs = false → ∀ W : World, RowN W (.slice (some ⟨w.heap.size, 0, none⟩) 0 0) (runL name zs)) := fun h W => by rw [runL_no h]; exact ⟨⟨_, _, rfl, fun hn => absurd rfl hn⟩, by simp⟩
  by_cases hb : 20000 < name.size
  · have hb' : (20000 : Int) < (name.size : Int) := by omega
    go_enter Try.func6, Try.ntmps6
    go_wp2
    go_ret
    exact ⟨_, rfl, HNO.out (by rw [okRun, nameB_size (by omega)]; simp) _, HR.out.2⟩
  have hb' : ¬ (20000 : Int) < (name.size : Int) := by omega
  by_cases hl : 400 < zs.length
  · have hl' : (400 : Int) < (zs.length : Int) := by omega
    go_enter Try.func6, Try.ntmps6
    go_wp2
    go_ret
    exact ⟨_, rfl, HNO.out (by rw [okRun, decide_eq_false (by omega)]; rfl) _, HR.out.2⟩
  have hl' : ¬ (400 : Int) < (zs.length : Int) := by omega
  go_enter Try.func6, Try.ntmps6
  go_wp2_with fail
  refine (l01Name_any name _).mono ?_
  rintro e w0 ⟨rfl, hw0⟩
  subst hw0
  cases hn : nameB name
  · go_wp2
    go_ret
    exact ⟨_, rfl, HNO.out (by rw [okRun, hn]; simp) _, HR.out.2⟩
  go_wp2
  go_loopw [6] (fun i wr => ∃ j : Nat, i = .int .i64 (j : Int) ∧ j ≤ zs.length ∧ (∀ (i : Nat) (z : Int), i < j → zs[i]? = some z → ctlB z = true) ∧ wr = w.alloc (.cells #[] 2)) (fun i _ => zs.length - (intOf i).toNat)
  case atStart => exact ⟨0, rfl, by omega, fun i z hi => by omega, rfl⟩
  case round =>
    obtain ⟨j, rfl, hj, hA, rfl⟩ := hrel
    have HA : Hid (∀ (i : Nat) (z : Int), i < j → zs[i]? = some z → ctlB z = true) := hA
    clear hA
    by_cases hlt : j < zs.length
    · have hlt' : (j : Int) < (zs.length : Int) := by omega
      obtain ⟨bb, oo, cap', z, e, hs, q0⟩ := (HR.out.1.below HR.out.2).at hlt
      simp only [Value.slice.injEq, true_and] at e
      obtain ⟨rfl, rfl⟩ := e
      have HS : Hid (zs[j]? = some z) := hs
      clear hs
      go_wp2_with fail
      refine (l01Control_any z _).mono ?_
      rintro e w2 ⟨rfl, hw2⟩
      subst hw2
      cases hz : ctlB z
      · go_wp2
        go_ret
        exact ⟨_, rfl, HNO.out (okRun_at HS.out hz) _, HR.out.2⟩
      · go_wp2
        go_roundw
        case rel =>
          refine ⟨j + 1, by go_num, by omega, fun i z' hi hz' => ?_, by trivial⟩
          rcases Nat.lt_or_ge i j with g | g
          · exact HA.out i z' g hz'
          · obtain rfl : i = j := by omega
            rw [HS.out] at hz'
            cases hz'
            exact hz
        case measure => simp [intOf]; omega
    · obtain rfl : j = zs.length := by omega
      have hok : okRun name zs = true := by
        rw [okRun, hn, decide_eq_true (show zs.length ≤ 400 by omega)]
        simp only [Bool.true_and, List.all_eq_true]
        intro z hz
        obtain ⟨i, hi⟩ := List.getElem?_of_mem hz
        exact HA.out i z (List.getElem?_eq_some_iff.1 hi).1 hi
      have HOK : Hid (okRun name zs = true) := hok
      clear hok
      go_wp2_with fail
      refine (ptNew_spec name _).mono ?_
      rintro e w1 ⟨rfl, hb1⟩
      have hs1 : w.heap.size + 1 ≤ w1.heap.size := by have := hb1.size; simpa using this
      have pq0 : PQ w (w1.alloc (.cells #[.string (newP name).name, .int .i64 (newP name).low, .int .i64 (newP name).next, .slice none 0 0] 30)) w1.heap.size (newP name) (.slice none 0 0) (.slice (some ⟨w.heap.size, 0, none⟩) 0 0) [] := by
        have hbw : Below w.heap.size w w1 := HR.out.2.trans (hb1.mono (by simp))
        refine ⟨hbw.alloc hbw.size _, World.alloc_heap_new _ _, ⟨w1.heap.size + 1, by omega, by rw [newP_seen]; exact LSn.nil _ _⟩, ?_, by simp [Value.ownBlock]; omega, newP_size name, hbw.size⟩
        exact (HM.out.kept (below_grown hb1) (.inr (by simp [Value.ownBlock]))).alloc _
      have HPQ : Hid (PQ w (w1.alloc (.cells #[.string (newP name).name, .int .i64 (newP name).low, .int .i64 (newP name).next, .slice none 0 0] 30)) w1.heap.size (newP name) (.slice none 0 0) (.slice (some ⟨w.heap.size, 0, none⟩) 0 0) []) := pq0
      clear pq0 hb1
      go_wp2
      go_loopw [5, 8] (fun lv i wr => ∃ (j : Nat) (p : Ptn) (v : Value) (acc : List Int), i = .int .i64 (j : Int) ∧ j ≤ zs.length ∧ (∃ A C, lv = .slice A acc.length C) ∧ acc.length = j ∧ PQ w wr w1.heap.size p v lv acc ∧ runK (newP name) zs = acc ++ runK p (zs.drop j) ∧ Fair v) (fun _ i _ => zs.length - (intOf i).toNat)
      case atStart => exact ⟨0, newP name, .slice none 0 0, [], rfl, by omega, ⟨_, 0, rfl⟩, rfl, HPQ.out, by simp, .inl rfl⟩
      case round =>
        obtain ⟨j, p, v, acc, rfl, hj, ⟨A1, C1, rfl⟩, hacc, hq, hK, hfv⟩ := hrel
        obtain ⟨Av, Cv, hv⟩ : ∃ Av Cv, v = .slice Av p.seen.length Cv := by
          obtain ⟨_, _, hl⟩ := hq.ls
          exact hl.val
        subst hv
        have HE : Hid (PQ w wr w1.heap.size p (.slice Av p.seen.length Cv) (.slice A1 acc.length C1) acc ∧ runK (newP name) zs = acc ++ runK p (zs.drop j) ∧ Fair (.slice Av p.seen.length Cv)) := ⟨hq, hK, hfv⟩
        have HACC : Hid (acc.length = j) := hacc
        have hal : acc.length ≤ 400 := by omega
        clear hK hfv hacc
        by_cases hlt : j < zs.length
        · have hlt' : (j : Int) < (zs.length : Int) := by omega
          obtain ⟨bb, oo, cap', z, e, hs, q0⟩ := (HR.out.1.below hq.bel).at hlt
          simp only [Value.slice.injEq, true_and] at e
          obtain ⟨rfl, rfl⟩ := e
          have HS : Hid (zs[j]? = some z) := hs
          obtain ⟨⟨x0, x1, x2, x3⟩, xf⟩ := hq.cells
          obtain ⟨t, ht⟩ : ∃ t, t = takeT p z 0 := ⟨_, rfl⟩
          have HTk : Hid (t = takeT p z 0) := ht
          have CI : Hid (∀ (v : Value) (w : World), RPt w v p → Fair v → Calls Try.prog 9 #[.agg #[.string p.name, .int .i64 p.low, .int .i64 p.next, v], .int .i64 z, .int .i64 0] w fun e w' => ∃ u, e = .returned (t.val u) ∧ Fair u ∧ (∃ b, w.heap.size ≤ b ∧ LSn b w' u t.p.seen) ∧ Below w.heap.size w w') := by rw [ht]; exact fun v w h hv => take_specL p v z 0 w h hv
          have hnm2 : t.p.name.size ≤ 12 := by rw [ht]; exact takeT_name12 hq.nm
          have hPlt := hq.lt
          have hbb : bb < wr.heap.size := cell_lt q0
          have hP1 : w1.heap.size ≠ wr.heap.size := by omega
          have hB1 : bb ≠ wr.heap.size := by omega
          clear hs hq ht xf
          go_upto_region 13 with fail
          go_cut [9] from 40 to 61 (fun x wx => ∃ (X A2' : Nat) (A2 : Option Addr) (C2 : Nat), x = .pointer (some ⟨X, 0, none⟩) ∧ PX w wx w1.heap.size p (.slice Av p.seen.length Cv) (.slice A1 acc.length C1) acc t (.slice A2 t.p.seen.length C2) X ∧ Fair (.slice A2 t.p.seen.length C2))
          case first =>
            have pa := HE.out.1.below (Below.refl _ _).drew
            have pb := HE.out.1.below ((Below.refl _ wr).alloc (Nat.le_refl _) (.cells #[.string ⟨#[]⟩, .int .i64 0, .int .i64 0, .slice none 0 0, .int .i64 0, .int .i64 0, .int .i64 0, .int .i64 0, .int .i64 0] 36)).drew
            have HQ3 : Hid (PQ w wr.drew w1.heap.size p (.slice Av p.seen.length Cv) (.slice A1 acc.length C1) acc ∧ PQ w (wr.alloc (.cells #[.string ⟨#[]⟩, .int .i64 0, .int .i64 0, .slice none 0 0, .int .i64 0, .int .i64 0, .int .i64 0, .int .i64 0, .int .i64 0] 36)).drew w1.heap.size p (.slice Av p.seen.length Cv) (.slice A1 acc.length C1) acc) := ⟨pa, pb⟩
            have Q0 : (wr.alloc (.cells #[.string ⟨#[]⟩, .int .i64 0, .int .i64 0, .slice none 0 0, .int .i64 0, .int .i64 0, .int .i64 0, .int .i64 0, .int .i64 0] 36)).cell? ⟨bb, oo + j, none⟩ = some (.int .i64 z) := by rw [← q0]; exact World.cell?_alloc_lt _ _ _ hbb
            clear pa pb
            go_region_held3 (fun W => W.cell? ⟨w1.heap.size, 0, none⟩ = some (.string p.name) ∧ W.cell? ⟨w1.heap.size, 1, none⟩ = some (.int .i64 p.low) ∧ W.cell? ⟨w1.heap.size, 2, none⟩ = some (.int .i64 p.next) ∧ W.cell? ⟨w1.heap.size, 3, none⟩ = some (.slice Av p.seen.length Cv) ∧ W.cell? ⟨bb, oo + j, none⟩ = some (.int .i64 z)) (first | go_keep | exact ⟨kp9 z0 hP1 _ _ _ _ _ _ _ _ _, kp9 z1 hP1 _ _ _ _ _ _ _ _ _, kp9 z2 hP1 _ _ _ _ _ _ _ _ _, kp9 z3 hP1 _ _ _ _ _ _ _ _ _, kp9 z4 hB1 _ _ _ _ _ _ _ _ _⟩) (first | (go_at_call 9; refine (CI.out _ _ (by with_reducible first | exact HQ3.out.1.row | exact HQ3.out.2.row) HE.out.2.2).mono ?_; rintro e w3 ⟨u3, rfl, hf3, ⟨b3, hb3, hl3⟩, hbw3⟩; obtain ⟨A2, C2, hv3⟩ := hl3.val; subst hv3; unfold Tk.val; obtain ⟨⟨z0, z1, z2, z3⟩, _⟩ := ((by with_reducible first | exact HQ3.out.1.below hbw3 | exact HQ3.out.2.below hbw3) : PQ w w3 w1.heap.size p (.slice Av p.seen.length Cv) (.slice A1 acc.length C1) acc).cells; have z4 : w3.cell? ⟨bb, oo + j, none⟩ = some (.int .i64 z) := (by first | exact (hbw3.cell (p := ⟨bb, oo + j, none⟩) hbb).trans q0 | exact (hbw3.cell (p := ⟨bb, oo + j, none⟩) (by simp; omega)).trans Q0); try (have hbx : w3.heap[wr.heap.size]? = some (.cells #[.string ⟨#[]⟩, .int .i64 0, .int .i64 0, .slice none 0 0, .int .i64 0, .int .i64 0, .int .i64 0, .int .i64 0, .int .i64 0] 36) := (hbw3.block wr.heap.size (by simp)).trans (World.alloc_heap_new _ _); obtain ⟨k0, k1, k2, k3, k4, k5, k6, k7, k8, kz⟩ := boxT hbx)))
            all_goals (go_wp2_with fail; go_meet)
            all_goals first | (have _h := hbx; exact ⟨_, 0, _, _, rfl, meetB HE.out.1 (undrewR hbw3) hl3 hb3, hf3⟩) | exact ⟨_, 0, _, _, rfl, meetA HE.out.1 (undrewR hbw3) hl3 hb3, hf3⟩
          case rest =>
            obtain ⟨X, _, A2, C2, rfl, hpx, hf2⟩ := hcut
            obtain ⟨b2, hb2, hl2⟩ := hpx.ls
            have hob := hpx.xb
            have H2 : Hid (PQ w wc w1.heap.size p (.slice Av p.seen.length Cv) (.slice A1 acc.length C1) acc ∧ LSn b2 wc (.slice A2 t.p.seen.length C2) t.p.seen ∧ w1.heap.size < b2) := ⟨hpx.pq, hl2, hb2⟩
            have HF2 : Hid (Fair (.slice A2 t.p.seen.length C2)) := hf2
            have o0 : wc.cell? ⟨X, 0, none⟩ = some (.string t.p.name) := by simp [World.cell?, hob]
            have o1 : wc.cell? ⟨X, 1, none⟩ = some (.int .i64 t.p.low) := by simp [World.cell?, hob]
            have o2 : wc.cell? ⟨X, 2, none⟩ = some (.int .i64 t.p.next) := by simp [World.cell?, hob]
            have o3 : wc.cell? ⟨X, 3, none⟩ = some (.slice A2 t.p.seen.length C2) := by simp [World.cell?, hob]
            have o4 : wc.cell? ⟨X, 4, none⟩ = some (.int .i64 t.kind) := by simp [World.cell?, hob]
            have o8 : wc.cell? ⟨X, 8, none⟩ = some (.int .i64 t.code) := by simp [World.cell?, hob]
            obtain ⟨⟨y0, y1, y2, y3⟩, yf⟩ := hpx.pq.cells
            have hno : X ≠ w1.heap.size := hpx.xn
            clear hl2 hob hpx x0 x1 x2 x3 q0 CI hf2
            by_cases hc : t.code = 0
            · have hc' : (t.code == 0) = true := by simpa using hc
              have HC : Hid (t.code = 0) := hc
              clear hc
              have pq4 := H2.out.1.set H2.out.2.2 H2.out.2.1 hnm2
              have H4 : Hid (PQ w ((((wc.setCell ⟨w1.heap.size, 0, none⟩ (.string t.p.name)).setCell ⟨w1.heap.size, 1, none⟩ (.int .i64 t.p.low)).setCell ⟨w1.heap.size, 2, none⟩ (.int .i64 t.p.next)).setCell ⟨w1.heap.size, 3, none⟩ (.slice A2 t.p.seen.length C2)) w1.heap.size t.p (.slice A2 t.p.seen.length C2) (.slice A1 acc.length C1) acc) := pq4
              have O4 : ((((wc.setCell ⟨w1.heap.size, 0, none⟩ (.string t.p.name)).setCell ⟨w1.heap.size, 1, none⟩ (.int .i64 t.p.low)).setCell ⟨w1.heap.size, 2, none⟩ (.int .i64 t.p.next)).setCell ⟨w1.heap.size, 3, none⟩ (.slice A2 t.p.seen.length C2)).cell? ⟨X, 4, none⟩ = some (.int .i64 t.kind) := by
                rw [← o4]
                refine World.cell?_of_block ?_
                rw [Below.heap_setCell _ _ _ _ (show X ≠ w1.heap.size from hno), Below.heap_setCell _ _ _ _ (show X ≠ w1.heap.size from hno), Below.heap_setCell _ _ _ _ (show X ≠ w1.heap.size from hno), Below.heap_setCell _ _ _ _ (show X ≠ w1.heap.size from hno)]
              clear pq4
              obtain ⟨W4, hW4⟩ : ∃ W4, ((((wc.setCell ⟨w1.heap.size, 0, none⟩ (.string t.p.name)).setCell ⟨w1.heap.size, 1, none⟩ (.int .i64 t.p.low)).setCell ⟨w1.heap.size, 2, none⟩ (.int .i64 t.p.next)).setCell ⟨w1.heap.size, 3, none⟩ (.slice A2 t.p.seen.length C2)) = W4 := ⟨_, rfl⟩
              rw [hW4] at H4 O4
              have HW4 : Hid (((((wc.setCell ⟨w1.heap.size, 0, none⟩ (.string t.p.name)).setCell ⟨w1.heap.size, 1, none⟩ (.int .i64 t.p.low)).setCell ⟨w1.heap.size, 2, none⟩ (.int .i64 t.p.next)).setCell ⟨w1.heap.size, 3, none⟩ (.slice A2 t.p.seen.length C2)) = W4) := hW4
              clear hW4
              go_upto_region 16 with fail
              rw [HW4.out]
              clear o0 o1 o2 o3 o4 o8 y0 y1 y2 y3 yf
              go_wp2_with (first | (at_builtin; refine wpList_appN (z := t.kind) (zs := acc) (base := w.heap.size) rfl _ _ rfl rfl rfl (H4.out.own.alloc _) (cell_newS _ _) (by omega) (by have hsz := H4.out.bel.size; simp only [World.size_alloc]; omega) ?_; rintro v6 w6 hown6 hgrow6 ⟨A6, C6, rfl⟩))
              have pq6 := H4.out.app hgrow6 hown6
              have e6 : (acc ++ [t.kind]).length = acc.length + 1 := by simp
              refine ⟨⟨j + 1, t.p, _, acc ++ [t.kind], by go_num, by omega, ⟨A6, C6, by rw [e6]⟩, by rw [e6, HACC.out], pq6, ?_, HF2.out⟩, by simp [intOf]; omega⟩
              rw [HE.out.2.1, runK_step HS.out, stepP, ← HTk.out, if_pos HC.out]
              simp
            · have hc' : (t.code == 0) = false := by simpa using hc
              have HC : Hid (¬ t.code = 0) := hc
              clear hc
              go_wp2_with (first | (at_builtin; refine wpList_appN (z := t.kind) (zs := acc) (base := w.heap.size) rfl _ _ rfl rfl rfl (H2.out.1.own.alloc _) (cell_newS _ _) (by omega) (by have hsz := H2.out.1.bel.size; simp only [World.size_alloc]; omega) ?_; rintro v6 w6 hown6 hgrow6 ⟨A6, C6, rfl⟩))
              have pq6 := H2.out.1.app hgrow6 hown6
              have e6 : (acc ++ [t.kind]).length = acc.length + 1 := by simp
              refine ⟨⟨j + 1, p, _, acc ++ [t.kind], by go_num, by omega, ⟨A6, C6, by rw [e6]⟩, by rw [e6, HACC.out], pq6, ?_, HE.out.2.2⟩, by simp [intOf]; omega⟩
              rw [HE.out.2.1, runK_step HS.out, stepP, ← HTk.out, if_neg HC.out]
              simp
        · obtain rfl : j = zs.length := by omega
          clear hq
          go_wp2
          go_ret
          have hfin : runL name zs = acc := by rw [runL_yes HOK.out, HE.out.2.1, runK_end, List.append_nil]
          rw [hfin]
          obtain ⟨b, hb, hL⟩ := LN.of_owns HE.out.1.own (by omega)
          exact ⟨_, rfl, hL.row, HE.out.1.bel⟩
end Go.Proofs.Ytcnkjibcjleleaa
