/- Contracts of the program's report of Diffs. -/
import Derived.Test.YtoccmgoglkdcpaaDoorDfsP
namespace Go.Proofs.YtoccmgoglkdcpaaDoor
open Go.ChangeShapes Go.WideShapes Go.ChangeAt Go.RowKit
set_option maxRecDepth 20000 in
set_option maxHeartbeats 8000000 in
theorem diffs_any (R : Nat) (rows0 : List (List ByteArray)) (rs : List Dff) (w0 : World) (v wv0 ev0 : Value) (w : World) (hv : RowDf w0 v rs) (hb0 : Below w0.heap.size w0 w) (hR : Rep w0.heap.size R w wv0 ev0 rows0) (hT : TabOk w0) (hz : ∀ l ∈ rs, DfB l) (hl : rows0.flatten.length + rs.length ≤ 900000) (hr : rows0.length + rs.length ≤ 900000) :
    Calls Tryd.prog 37 #[.pointer (some ⟨R, 0, none⟩), v] w fun e w' => e = .returned (.tuple #[]) ∧ (∃ wv ev, Rep w0.heap.size R w' wv ev (rows0 ++ rs.map dfR)) ∧ Below w0.heap.size w0 w' := by
  obtain ⟨A, cap, rfl⟩ := hv.val
  have hlen := hv.len
  obtain ⟨n0, hn0⟩ : ∃ n0, n0 = w0.heap.size := ⟨_, rfl⟩
  have H0 : Hid (RowDf w0 (.slice A rs.length cap) rs ∧ TabOk w0 ∧ (∀ l ∈ rs, DfB l) ∧ n0 = w0.heap.size) := ⟨hv, hT, hz, hn0⟩
  have HS : Hid (Rep n0 R w wv0 ev0 rows0 ∧ Below n0 w0 w) := by rw [hn0]; exact ⟨hR, hb0⟩
  rw [← hn0]
  clear hv hT hz hR hb0 hn0
  go_enter Tryd.func37, Tryd.ntmps37
  go_wp2_with fail
  go_loopw [8] (fun ix wr => ∃ k : Nat, ix = .int .i64 (k : Int) ∧ k ≤ rs.length ∧ (∃ wv ev, Rep n0 R wr wv ev (rows0 ++ (rs.take k).map dfR)) ∧ Below n0 w0 wr) (fun ix _ => rs.length - (intOf ix).toNat)
  case atStart => exact ⟨0, rfl, by omega, ⟨_, _, by simpa using HS.out.1⟩, HS.out.2⟩
  case round =>
    obtain ⟨k, rfl, hk, ⟨wv, ev, hrep⟩, hb⟩ := hrel
    by_cases hlt : k < rs.length
    · have hlt' : (k : Int) < (rs.length : Int) := by omega
      obtain ⟨b, o, cap', l, e, hs, hat, hz⟩ := (H0.out.1.below (by rw [← H0.out.2.2.2]; exact hb)).at hlt
      simp only [Value.slice.injEq, true_and] at e
      obtain ⟨rfl, rfl⟩ := e
      obtain ⟨rows, hrows⟩ : ∃ rows, rows = rows0 ++ (rs.take k).map dfR := ⟨_, rfl⟩
      rw [← hrows] at hrep
      have hrl : rows.length = rows0.length + k := by rw [hrows, List.length_append, List.length_map, List.length_take]; omega
      have hrf : rows.flatten.length = rows0.flatten.length + k := by rw [hrows, List.flatten_append, List.length_append, dfR_flat, List.length_take]; omega
      have HN : Hid (rows0 ++ (rs.take (k + 1)).map dfR = rows ++ [dfR l]) := by
        show _ = _
        rw [hrows, List.take_add_one, hs]
        simp
      have HZ : Hid (DfB l) := H0.out.2.2.1 l (List.mem_of_getElem? hs)
      have hc4 : 0 < (dfR l).length := by rw [dfR_len]; omega
      have hl4 : rows.flatten.length + (dfR l).length ≤ 1000000 := by rw [dfR_len]; omega
      have hr4 : rows.length ≤ 1000000 := by omega
      obtain ⟨q0, q1, q2, q3, q4, q5⟩ := hat
      obtain ⟨W0, hW0⟩ : ∃ W0, wr.alloc (.cells #[.int .i64 l.kind, .string l.partner, .string l.ref, .int .i64 l.no, .string l.item, .int .i64 l.qty] 70) = W0 := ⟨_, rfl⟩
      obtain ⟨P, hP⟩ : ∃ P, P = wr.heap.size := ⟨_, rfl⟩
      have ha : Below wr.heap.size wr W0 := by rw [← hW0]; exact (Below.refl _ _).alloc (Nat.le_refl _) _
      have hbx : W0.heap[P]? = some (.cells #[.int .i64 l.kind, .string l.partner, .string l.ref, .int .i64 l.no, .string l.item, .int .i64 l.qty] 70) := by rw [← hW0, hP]; exact World.alloc_heap_new _ _
      have hn : n0 ≤ wr.heap.size := by rw [H0.out.2.2.2]; rw [H0.out.2.2.2] at hb; exact hb.size
      have hbW : Below n0 w0 W0 := hb.trans (ha.mono hn)
      have HC : Hid (Below n0 w0 W0 ∧ TabOk W0 ∧ Rep n0 R W0 wv ev rows ∧ n0 ≤ W0.heap.size) := ⟨hbW, H0.out.2.1.below (by rw [← H0.out.2.2.2]; exact hbW), hrep.below ha, by have := ha.size; omega⟩
      have HW : Hid (wr.alloc (.cells #[.int .i64 l.kind, .string l.partner, .string l.ref, .int .i64 l.no, .string l.item, .int .i64 l.qty] 70) = W0 ∧ P = wr.heap.size) := ⟨hW0, hP⟩
      clear hs hz hb hrep hrows hW0 hP ha hbW
      go_upto_region 3 with fail
      rw [HW.out.1, ← HW.out.2]
      clear q0 q1 q2 q3 q4 q5 HW
      obtain ⟨c0, c1, c2, c3, c4, c5⟩ := box6' hbx
      clear hbx
      go_wp2_with fail
      refine (diffText_impl l _ HZ.out.z HZ.out.i.1 HZ.out.i.2.1 HZ.out.i.2.2 HC.out.2.1).mono ?_
      rintro e w2 ⟨rfl, hb2⟩
      have hA : Below w2.heap.size w2 (w2.alloc (.cells #[.string (dfT l)] 9)) := (Below.refl _ _).alloc (Nat.le_refl _) _
      have HA : Hid (Rep n0 R (w2.alloc (.cells #[.string (dfT l)] 9)) wv ev rows ∧ (∀ (j : Nat) (t : ByteArray), (dfR l)[j]? = some t → (w2.alloc (.cells #[.string (dfT l)] 9)).cell? ⟨w2.heap.size, j, none⟩ = some (.string t)) ∧ n0 ≤ (w2.alloc (.cells #[.string (dfT l)] 9)).heap.size ∧ Below n0 w0 (w2.alloc (.cells #[.string (dfT l)] 9))) := by
        have h0 := HC.out.2.2.2
        have h1 := hb2.size
        have h2 := hA.size
        refine ⟨(HC.out.2.2.1.below hb2).below hA, fun j t hj => ?_, by omega, HC.out.1.trans ((hb2.trans (hA.mono h1)).mono h0)⟩
        have hj4 : j < 1 := (List.getElem?_eq_some_iff.1 hj).1
        have e := World.alloc_heap_new w2 (.cells #[.string (dfT l)] 9)
        unfold World.cell?
        match j, hj4 with
        | 0, _ => cases hj; rw [e]; rfl
      clear hb2 hA c0 c1 c2 c3 c4 c5
      go_wp2_with fail
      refine (write_any n0 R w2.heap.size 1 wv ev rows (dfR l) _ HA.out.1 HA.out.2.1 hc4 hl4 hr4 HA.out.2.2.1).mono ?_
      rintro e wd ⟨rfl, hrd, hbd, hkd⟩
      have HE : Hid ((∃ wv ev, Rep n0 R wd wv ev (rows0 ++ (rs.take (k + 1)).map dfR)) ∧ Below n0 w0 wd) := ⟨by rw [HN.out]; exact hrd, HA.out.2.2.2.trans hbd⟩
      clear hrd hbd hkd
      go_wp2
      go_roundw
      case rel => exact ⟨k + 1, by go_num, by omega, HE.out.1, HE.out.2⟩
      case measure => simp [intOf]; omega
    · obtain rfl : k = rs.length := by omega
      have HE : Hid ((∃ wv ev, Rep n0 R wr wv ev (rows0 ++ rs.map dfR)) ∧ Below n0 w0 wr) := by
        rw [List.take_length] at hrep
        exact ⟨⟨_, _, hrep⟩, hb⟩
      clear hrep hb
      go_wp2
      go_end0
      exact ⟨rfl, HE.out.1, HE.out.2⟩
set_option maxHeartbeats 4000000 in
theorem diffsText_impl (v : Value) (rs : List Dff) (w : World) (h : RowDf w v rs) (hz : ∀ d ∈ rs, DfB d) (hT : TabOk w) : Calls Tryd.prog 14 #[v] w fun e w' => e = .returned (.string (dfsT rs)) ∧ Below w.heap.size w w' := by
  obtain ⟨A, cap, rfl⟩ := h.val
  have hlen := h.len
  have H1 : Hid (RowDf w (.slice A rs.length cap) rs ∧ TabOk w ∧ (∀ d ∈ rs, DfB d)) := ⟨h, hT, hz⟩
  clear h hT hz
  go_enter Tryd.func14, Tryd.ntmps14
  by_cases hg : 400 < rs.length
  · have hg' : (400 : Int) < (rs.length : Int) := by omega
    have HN : Hid (dfsT rs = ⟨#[]⟩) := dfsT_no hg
    go_wp2
    go_ret
    exact ⟨by rw [HN.out]; rfl, Below.refl _ _⟩
  have hg' : ¬ (400 : Int) < (rs.length : Int) := by omega
  have HN : Hid (dfsT rs = txB (rs.map dfR)) := dfsT_yes hg
  have hA : Below w.heap.size w (w.alloc (.cells #[.slice none 0 0, .slice none 0 0] 61)) := (Below.refl _ _).alloc (Nat.le_refl _) _
  have HA : Hid (Below w.heap.size w (w.alloc (.cells #[.slice none 0 0, .slice none 0 0] 61))) := hA
  clear hA
  go_wp2_with fail
  refine (diffs_any w.heap.size [] rs w _ _ _ _ H1.out.1 HA.out (Rep.new w) H1.out.2.1 H1.out.2.2 (by simp; omega) (by simp; omega)).mono ?_
  rintro e w2 ⟨rfl, ⟨wv, ev, hr2⟩, hb2⟩
  rw [List.nil_append] at hr2
  have H2 : Hid (Rep w.heap.size w.heap.size w2 wv ev (rs.map dfR) ∧ Below w.heap.size w w2) := ⟨hr2, hb2⟩
  clear hr2 hb2
  go_wp2_with fail
  refine (text_any _ _ wv ev (rs.map dfR) _ H2.out.1 (fun r hr => by obtain ⟨l, _, rfl⟩ := List.mem_map.1 hr; rw [dfR_len]; omega) (by rw [dfR_flat]; omega) (by rw [List.length_map]; omega) (Nat.le_trans (dfs_len H1.out.2.2) (by omega))).mono ?_
  rintro e w3 ⟨rfl, hb3⟩
  have H3 : Hid (Below w.heap.size w w3) := H2.out.2.trans (hb3.mono H2.out.2.size)
  clear hb3
  go_wp2
  go_ret
  exact ⟨by rw [HN.out]; rfl, H3.out⟩
end Go.Proofs.YtoccmgoglkdcpaaDoor
