/- Contract of the program's EventsText. -/
import Derived.Test.YtndammnilopfaaaDoorScW
import Derived.Test.YtndammnilopfaaaDoorEtA
import Derived.Test.YtndammnilopfaaaDoorRpT
import Derived.Test.YtndammnilopfaaaDoorTxB
namespace Go.Proofs.YtndammnilopfaaaDoor
open Go.ChangeShapes Go.WideShapes Go.ChangeAt Go.RowKit
theorem dgt_cells {r : Nat → Value} {B : Nat} {W : World} (h : Dgt false 80 21 r B W) : ∃ c, W.heap[B]? = some (.cells c 80) := by
  rcases h with h | ⟨m, _, h, _⟩
  · obtain ⟨c, hc, _⟩ := h
    exact ⟨c, hc⟩
  · obtain ⟨c, hc, _⟩ := h
    exact ⟨c, hc⟩
theorem dgt_block {r : Nat → Value} {B : Nat} {W W' : World} (h : Dgt false 80 21 r B W) (e : W'.heap[B]? = W.heap[B]?) : Dgt false 80 21 r B W' := by
  rcases h with h | ⟨m, hne, h, _⟩
  · exact .new (h.of_block e)
  · exact .made m hne (h.of_block e) (fun e => by cases e)
theorem dgt_kt {r : Nat → Value} {B : Nat} {W W' : World} (h : Dgt false 80 21 r B W) (hk : KT W W') : Dgt false 80 21 r B W' := by
  obtain ⟨c, hc⟩ := dgt_cells h
  exact dgt_block h ((hk B c _ hc (by decide) (by decide) (by decide)).trans hc.symm)
theorem rep_grown {r : Nat → Value} {n0 R B : Nat} {W W' : World} {wv ev : Value} {rows : List (List ByteArray)} (h : Rep n0 R W wv ev rows) (hd : Dgt false 80 21 r B W) (hg : W.grownBy W' (some B)) : Rep n0 R W' wv ev rows := by
  obtain ⟨c, hc⟩ := dgt_cells hd
  have hRB : R ≠ B := fun e => by
    have := h.box
    rw [e, hc] at this
    simp at this
  exact ⟨(hg.block R h.lt (by simp; exact hRB)).trans h.box, h.words.kept hg (.inr (rp_apart h.words hc (by decide))), h.ends.kept hg (.inr (rp_apart h.ends hc (by decide))), h.hR⟩
set_option maxRecDepth 20000 in
set_option maxHeartbeats 8000000 in
theorem eventsText_impl (v : Value) (rs : List EvR) (w : World) (h : RowEv w v rs) (hw : WrdAt w) : Calls Tryd.prog 8 #[v] w fun e w' => e = .returned (.string (evT rs)) ∧ Below w.heap.size w w' := by
  obtain ⟨A, Cp, rfl⟩ := h.val
  have hlen := h.len
  have H0 : Hid (RowEv w (.slice A rs.length Cp) rs ∧ WrdAt w) := ⟨h, hw⟩
  have Q := eventsRight_any (.slice A rs.length Cp) rs w h
  obtain ⟨y, hy⟩ : ∃ y, y = (decide (rs.length ≤ 60) && allE rs) := ⟨_, rfl⟩
  have HY : Hid (y = (decide (rs.length ≤ 60) && allE rs)) := hy
  rw [← hy] at Q
  clear h hw hy
  go_enter Tryd.func8, Tryd.ntmps8
  go_wp2_with fail
  refine Q.mono ?_
  rintro e w1 ⟨rfl, hb1⟩
  have H1 : Hid (Below w.heap.size w w1) := hb1
  clear hb1 Q
  cases y with
  | false =>
    have HN : Hid (evT rs = ⟨#[]⟩) := by
      by_cases hl : rs.length ≤ 60
      · refine evT_no ?_
        have := HY.out
        rw [decide_eq_true hl] at this
        simpa using this.symm
      · exact evT_long hl
    go_wp2
    go_ret
    exact ⟨by rw [HN.out]; rfl, H1.out⟩
  | true =>
  have hyy := HY.out.symm
  rw [Bool.and_eq_true, decide_eq_true_eq] at hyy
  obtain ⟨hl60, hall⟩ := hyy
  have HN : Hid (evT rs = txB (rs.map evR)) := evT_yes hl60 hall
  have HA : Hid (∀ c ∈ rs, evB c = true) := allE_iff.1 hall
  clear hall HY
  have hA : Below w1.heap.size w1 (w1.alloc (.cells #[.slice none 0 0, .slice none 0 0] 46)) := (Below.refl _ _).alloc (Nat.le_refl _) _
  have HR : Hid (Rep w1.heap.size w1.heap.size (w1.alloc (.cells #[.slice none 0 0, .slice none 0 0] 46)) (.slice none 0 0) (.slice none 0 0) [] ∧ Below w1.heap.size w1 (w1.alloc (.cells #[.slice none 0 0, .slice none 0 0] 46)) ∧ (w1.alloc (.cells #[.slice none 0 0, .slice none 0 0] 46)).heap.size = w1.heap.size + 1) := ⟨Rep.new w1, hA, by simp⟩
  clear hA
  obtain ⟨W2, hW2⟩ : ∃ W2, w1.alloc (.cells #[.slice none 0 0, .slice none 0 0] 46) = W2 := ⟨_, rfl⟩
  rw [hW2] at HR
  go_wp2_with fail
  try rw [hW2]
  refine (newScribe_any W2).mono ?_
  rintro e w3 ⟨rfl, hr3, _, hb3⟩
  obtain ⟨B, hB⟩ : ∃ B, B = W2.heap.size := ⟨_, rfl⟩
  obtain ⟨M, hM⟩ : ∃ M, M = B + 1 := ⟨_, rfl⟩
  obtain ⟨n0, hn0⟩ : ∃ n0, n0 = w1.heap.size := ⟨_, rfl⟩
  have hz2 := HR.out.2.2
  have hz3 := hb3.size
  have hBlt := hr3.lt
  rw [← hB, ← hM] at hr3
  have H3 : Hid (Rep n0 n0 w3 (.slice none 0 0) (.slice none 0 0) [] ∧ Below n0 w1 w3 ∧ Dgt false 80 21 (scR M) B w3 ∧ B = n0 + 1) := by
    rw [hn0]
    exact ⟨HR.out.1.below hb3, HR.out.2.1.trans (hb3.mono (by omega)), .new hr3, by omega⟩
  have HS : Hid (n0 = w1.heap.size) := hn0
  rw [← hB]
  rw [← hn0]
  clear hr3 hb3 hB hM hn0 HR hW2 hz2 hz3 hBlt
  go_wp2_with fail
  go_loopw [13] (fun ix wr => ∃ k : Nat, ix = .int .i64 (k : Int) ∧ k ≤ rs.length ∧ (∃ wv ev, Rep n0 n0 wr wv ev ((rs.take k).map evR)) ∧ Below n0 w1 wr ∧ Dgt false 80 21 (scR M) B wr) (fun ix _ => rs.length - (intOf ix).toNat)
  case atStart => exact ⟨0, rfl, by omega, ⟨_, _, H3.out.1⟩, H3.out.2.1, H3.out.2.2.1⟩
  case round =>
    obtain ⟨k, rfl, hk, ⟨wv, ev, hrep⟩, hb, hd⟩ := hrel
    by_cases hlt : k < rs.length
    · have hlt' : (k : Int) < (rs.length : Int) := by omega
      have hbw : Below w.heap.size w wr := H1.out.trans (hb.mono (by rw [HS.out]; exact H1.out.size))
      obtain ⟨b, o, cap', l, e, hs, hat, hz⟩ := (H0.out.1.below hbw).at hlt
      simp only [Value.slice.injEq, true_and] at e
      obtain ⟨rfl, rfl⟩ := e
      obtain ⟨rows, hrows⟩ : ∃ rows, rows = (rs.take k).map evR := ⟨_, rfl⟩
      rw [← hrows] at hrep
      have hrl : rows.length = k := by rw [hrows, List.length_map, List.length_take]; omega
      have hrf : rows.flatten.length ≤ 4 * k := by
        rw [hrows]
        refine Nat.le_trans (evR_flat _) ?_
        rw [List.length_take]
        omega
      have HNX : Hid ((rs.take (k + 1)).map evR = rows ++ [evR l]) := by
        show _ = _
        rw [hrows, List.take_add_one, hs]
        simp
      have HOK : Hid (EvOk l) := evB_iff.1 (HA.out l (List.mem_of_getElem? hs))
      obtain ⟨hc4, hc5⟩ := evR_len l
      have hl4 : rows.flatten.length + (evR l).length ≤ 1000000 := by omega
      have hr4 : rows.length ≤ 1000000 := by omega
      obtain ⟨q0, q1, q2, q3⟩ := hat
      obtain ⟨W0, hW0⟩ : ∃ W0, wr.alloc (.cells #[.int .i64 l.kind, .string l.a, .string l.b, .string l.c] 39) = W0 := ⟨_, rfl⟩
      obtain ⟨P, hP⟩ : ∃ P, P = wr.heap.size := ⟨_, rfl⟩
      have ha : Below wr.heap.size wr W0 := by rw [← hW0]; exact (Below.refl _ _).alloc (Nat.le_refl _) _
      have hbx : W0.heap[P]? = some (.cells #[.int .i64 l.kind, .string l.a, .string l.b, .string l.c] 39) := by rw [← hW0, hP]; exact World.alloc_heap_new _ _
      have hn : n0 ≤ wr.heap.size := by rw [HS.out]; rw [HS.out] at hb; exact hb.size
      have hbW : Below n0 w1 W0 := hb.trans (ha.mono hn)
      have hlW : B < W0.heap.size := by
        obtain ⟨c, hc⟩ := dgt_cells hd
        have := (Array.getElem?_eq_some_iff.1 hc).1
        have := ha.size
        omega
      have hwW : WrdAt W0 := H0.out.2.below (hbw.trans (ha.mono hbw.size))
      have HC : Hid (Below n0 w1 W0 ∧ Rep n0 n0 W0 wv ev rows ∧ n0 ≤ W0.heap.size ∧ Dgt false 80 21 (scR M) B W0 ∧ B < W0.heap.size ∧ WrdAt W0) := ⟨hbW, hrep.below ha, by have := ha.size; omega, hd.below ha, hlW, hwW⟩
      have HW : Hid (wr.alloc (.cells #[.int .i64 l.kind, .string l.a, .string l.b, .string l.c] 39) = W0 ∧ P = wr.heap.size) := ⟨hW0, hP⟩
      clear hs hz hb hrep hrows hW0 hP ha hbW hbw hd hlW hwW hrl hrf hc5
      go_upto_region 8 with fail
      rw [HW.out.1, ← HW.out.2]
      clear q0 q1 q2 q3 HW
      obtain ⟨c0, c1, c2, c3⟩ := bx4e hbx
      clear hbx
      go_wp2_with fail
      refine (words_any B l HOK.out _ HC.out.2.2.2.1 HC.out.2.2.2.2.1 HC.out.2.2.2.2.2).mono ?_
      rintro e w2 ⟨⟨c, C, rfl, hcc⟩, hd2, hg2⟩
      have HE2 : Hid (Rep n0 n0 w2 wv ev rows ∧ Below n0 w1 w2 ∧ Dgt false 80 21 (scR M) B w2 ∧ n0 ≤ w2.heap.size ∧ ∀ (j : Nat) (t : ByteArray), (evR l)[j]? = some t → w2.cell? ⟨c, j, none⟩ = some (.string t)) := by
        refine ⟨rep_grown HC.out.2.1 HC.out.2.2.2.1 hg2, HC.out.1.trans ⟨hg2.os, hg2.tape, hg2.output, hg2.size, fun k hk => hg2.block k (by have := HC.out.2.2.1; omega) (by have := H3.out.2.2.2; simp; omega)⟩, hd2, Nat.le_trans HC.out.2.2.1 hg2.size, hcc⟩
      clear hd2 hg2 hcc c0 c1 c2 c3
      go_wp2_with fail
      refine (write_any n0 n0 c C wv ev rows (evR l) _ HE2.out.1 HE2.out.2.2.2.2 hc4 hl4 hr4 HE2.out.2.2.2.1).mono ?_
      rintro e wd ⟨rfl, hrd, hbd, hkd⟩
      have HE : Hid ((∃ wv ev, Rep n0 n0 wd wv ev ((rs.take (k + 1)).map evR)) ∧ Below n0 w1 wd ∧ Dgt false 80 21 (scR M) B wd) := ⟨by rw [HNX.out]; exact hrd, HE2.out.2.1.trans hbd, dgt_kt HE2.out.2.2.1 hkd⟩
      clear hrd hbd hkd
      go_wp2
      go_roundw
      case rel => exact ⟨k + 1, by go_num, by omega, HE.out⟩
      case measure => simp [intOf]; omega
    · obtain rfl : k = rs.length := by omega
      rw [List.take_length] at hrep
      have HE : Hid (Rep n0 n0 wr wv ev (rs.map evR) ∧ Below w.heap.size w wr) := ⟨hrep, H1.out.trans (hb.mono (by rw [HS.out]; exact H1.out.size))⟩
      clear hrep hb hd
      go_wp2_with fail
      refine (text_any _ _ wv ev (rs.map evR) _ HE.out.1 (fun r hr => by obtain ⟨l, _, rfl⟩ := List.mem_map.1 hr; exact (evR_len l).1) (by have := evR_flat rs; omega) (by rw [List.length_map]; omega) (Nat.le_trans (evs_len HA.out) (by omega))).mono ?_
      rintro e w4 ⟨rfl, hb4⟩
      have H4 : Hid (Below w.heap.size w w4) := HE.out.2.trans (hb4.mono HE.out.2.size)
      clear hb4
      go_wp2
      go_ret
      exact ⟨by rw [HN.out]; rfl, H4.out⟩
end Go.Proofs.YtndammnilopfaaaDoor
