/- Contracts of the program's report of an outbox. -/
import Derived.Test.YtoccmgoglkdcpaaDoorOtP
import Derived.Test.YtoccmgoglkdcpaaDoorOuR
import Derived.Deep.RegionHeld3
namespace Go.Proofs.YtoccmgoglkdcpaaDoor
open Go.ChangeShapes Go.WideShapes Go.ChangeAt Go.RowKit
set_option maxRecDepth 20000 in
set_option maxHeartbeats 8000000 in
theorem outbox_any (R : Nat) (rows0 : List (List ByteArray)) (rs : List OutR) (w0 : World) (v wv0 ev0 : Value) (w : World) (hv : RowOu w0 v rs) (hb0 : Below w0.heap.size w0 w) (hR : Rep w0.heap.size R w wv0 ev0 rows0) (hT : TabOk w0) (hz : ∀ l ∈ rs, OuZ l) (hl : rows0.flatten.length + 4 * rs.length ≤ 900000) (hr : rows0.length + rs.length ≤ 900000) :
    Calls Tryd.prog 43 #[.pointer (some ⟨R, 0, none⟩), v] w fun e w' => e = .returned (.tuple #[]) ∧ (∃ wv ev, Rep w0.heap.size R w' wv ev (rows0 ++ rs.map outW)) ∧ Below w0.heap.size w0 w' := by
  obtain ⟨A, cap, rfl⟩ := hv.val
  have hlen := hv.len
  obtain ⟨n0, hn0⟩ : ∃ n0, n0 = w0.heap.size := ⟨_, rfl⟩
  have H0 : Hid (RowOu w0 (.slice A rs.length cap) rs ∧ TabOk w0 ∧ (∀ l ∈ rs, OuZ l) ∧ n0 = w0.heap.size) := ⟨hv, hT, hz, hn0⟩
  have HS : Hid (Rep n0 R w wv0 ev0 rows0 ∧ Below n0 w0 w) := by rw [hn0]; exact ⟨hR, hb0⟩
  rw [← hn0]
  clear hv hT hz hR hb0 hn0
  go_enter Tryd.func43, Tryd.ntmps43
  go_wp2_with fail
  go_loopw [8] (fun ix wr => ∃ k : Nat, ix = .int .i64 (k : Int) ∧ k ≤ rs.length ∧ (∃ wv ev, Rep n0 R wr wv ev (rows0 ++ (rs.take k).map outW)) ∧ Below n0 w0 wr) (fun ix _ => rs.length - (intOf ix).toNat)
  case atStart => exact ⟨0, rfl, by omega, ⟨_, _, by simpa using HS.out.1⟩, HS.out.2⟩
  case round =>
    obtain ⟨k, rfl, hk, ⟨wv, ev, hrep⟩, hb⟩ := hrel
    by_cases hlt : k < rs.length
    · have hlt' : (k : Int) < (rs.length : Int) := by omega
      obtain ⟨b, o, cap', l, e, hs, hat, hz⟩ := (H0.out.1.below (by rw [← H0.out.2.2.2]; exact hb)).at hlt
      simp only [Value.slice.injEq, true_and] at e
      obtain ⟨rfl, rfl⟩ := e
      obtain ⟨rows, hrows⟩ : ∃ rows, rows = rows0 ++ (rs.take k).map outW := ⟨_, rfl⟩
      rw [← hrows] at hrep
      have hrl : rows.length = rows0.length + k := by rw [hrows, List.length_append, List.length_map, List.length_take]; omega
      have hrf : rows.flatten.length = rows0.flatten.length + 4 * k := by rw [hrows, List.flatten_append, List.length_append, outW_flat, List.length_take]; omega
      have HN : Hid (rows0 ++ (rs.take (k + 1)).map outW = rows ++ [outW l]) := by
        show _ = _
        rw [hrows, List.take_add_one, hs]
        simp
      have hZ := H0.out.2.2.1 l (List.mem_of_getElem? hs)
      have hI_number := hZ.n
      have hI_tries := hZ.t
      have hI_due := hZ.d
      have hc4 : 0 < (outW l).length := by rw [outW_len]; omega
      have hl4 : rows.flatten.length + (outW l).length ≤ 1000000 := by rw [outW_len]; omega
      have hr4 : rows.length ≤ 1000000 := by omega
      obtain ⟨q0, q1, q2, q3, q4⟩ := hat
      have hsz := hb.size
      obtain ⟨W0, hW0⟩ : ∃ W0, wr.alloc (.cells #[.string l.partner, .int .i64 l.number, .string l.text, .int .i64 l.tries, .int .i64 l.due] 78) = W0 := ⟨_, rfl⟩
      obtain ⟨P, hP⟩ : ∃ P, P = wr.heap.size := ⟨_, rfl⟩
      have ha : Below wr.heap.size wr W0 := by rw [← hW0]; exact (Below.refl _ _).alloc (Nat.le_refl _) _
      have hbx : W0.heap[P]? = some (.cells #[.string l.partner, .int .i64 l.number, .string l.text, .int .i64 l.tries, .int .i64 l.due] 78) := by rw [← hW0, hP]; exact World.alloc_heap_new _ _
      have hn : n0 ≤ wr.heap.size := by rw [H0.out.2.2.2]; rw [H0.out.2.2.2] at hb; exact hb.size
      have hbW : Below n0 w0 W0 := hb.trans (ha.mono hn)
      have hRW : Rep n0 R W0 wv ev rows := hrep.below ha
      have HC : Hid (Below n0 w0 W0 ∧ TabOk W0 ∧ (∀ W, Below W0.heap.size W0 W → W.cell? ⟨P, 0, none⟩ = some (.string l.partner) ∧ W.cell? ⟨P, 1, none⟩ = some (.int .i64 l.number) ∧ W.cell? ⟨P, 2, none⟩ = some (.string l.text) ∧ W.cell? ⟨P, 3, none⟩ = some (.int .i64 l.tries) ∧ W.cell? ⟨P, 4, none⟩ = some (.int .i64 l.due)) ∧ (∀ W, Below W0.heap.size W0 W → Rep n0 R (W.alloc (.cells #[.string l.partner, .string (decS l.number), .string (decS l.tries), .string (decS l.due)] 9)) wv ev rows ∧ (∀ (j : Nat) (t : ByteArray), (outW l)[j]? = some t → (W.alloc (.cells #[.string l.partner, .string (decS l.number), .string (decS l.tries), .string (decS l.due)] 9)).cell? ⟨W.heap.size, j, none⟩ = some (.string t)) ∧ n0 ≤ (W.alloc (.cells #[.string l.partner, .string (decS l.number), .string (decS l.tries), .string (decS l.due)] 9)).heap.size ∧ (∀ W', KT (W.alloc (.cells #[.string l.partner, .string (decS l.number), .string (decS l.tries), .string (decS l.due)] 9)) W' → W'.cell? ⟨P, 0, none⟩ = some (.string l.partner) ∧ W'.cell? ⟨P, 1, none⟩ = some (.int .i64 l.number) ∧ W'.cell? ⟨P, 2, none⟩ = some (.string l.text) ∧ W'.cell? ⟨P, 3, none⟩ = some (.int .i64 l.tries) ∧ W'.cell? ⟨P, 4, none⟩ = some (.int .i64 l.due)))) := by
        refine ⟨hbW, H0.out.2.1.below (by rw [← H0.out.2.2.2]; exact hbW), fun W hW => box5 ((hW.block _ (Array.getElem?_eq_some_iff.1 hbx).1).trans hbx), fun W hW => ?_⟩
        have hA : Below W.heap.size W (W.alloc (.cells #[.string l.partner, .string (decS l.number), .string (decS l.tries), .string (decS l.due)] 9)) := (Below.refl _ _).alloc (Nat.le_refl _) _
        refine ⟨(hRW.below hW).below hA, fun j t hj => ?_, ?_, fun W' hk' => ?_⟩
        · have hj4 : j < 4 := (List.getElem?_eq_some_iff.1 hj).1
          have e := World.alloc_heap_new W (.cells #[.string l.partner, .string (decS l.number), .string (decS l.tries), .string (decS l.due)] 9)
          unfold World.cell?
          match j, hj4 with
          | 0, _ => cases hj; rw [e]; rfl
          | 1, _ => cases hj; rw [e]; rfl
          | 2, _ => cases hj; rw [e]; rfl
          | 3, _ => cases hj; rw [e]; rfl
        · have h1 := hA.size
          have h2 := hW.size
          have h3 := ha.size
          omega
        · have h1 := (hA.block _ (Array.getElem?_eq_some_iff.1 ((hW.block _ (Array.getElem?_eq_some_iff.1 hbx).1).trans hbx)).1).trans ((hW.block _ (Array.getElem?_eq_some_iff.1 hbx).1).trans hbx)
          exact box5 (hk' P _ _ h1 (by decide) (by decide) (by decide))
      have HW : Hid (wr.alloc (.cells #[.string l.partner, .int .i64 l.number, .string l.text, .int .i64 l.tries, .int .i64 l.due] 78) = W0 ∧ P = wr.heap.size) := ⟨hW0, hP⟩
      clear hs hz hb hrep hrows hW0 hP ha hbx hbW hRW hZ
      go_upto_region 3 with fail
      rw [HW.out.1, ← HW.out.2]
      clear q0 q1 q2 q3 q4 HW
      obtain ⟨c0, c1, c2, c3, c4⟩ := HC.out.2.2.1 W0 (Below.refl _ _)
      go_region_held3 (fun W => W.cell? ⟨P, 0, none⟩ = some (.string l.partner) ∧ W.cell? ⟨P, 1, none⟩ = some (.int .i64 l.number) ∧ W.cell? ⟨P, 2, none⟩ = some (.string l.text) ∧ W.cell? ⟨P, 3, none⟩ = some (.int .i64 l.tries) ∧ W.cell? ⟨P, 4, none⟩ = some (.int .i64 l.due)) (go_keep) (first | (go_at_call_of 58 (Value.int IntKind.i64 l.number); refine (digitsOf_any l.number _ hI_number.1 hI_number.2 (by first | exact HC.out.2.1 | exact HC.out.2.1.drew)).mono ?_; rintro e wa ⟨rfl, hba⟩; have ba : Below W0.heap.size W0 wa := (by first | exact hba | exact undrewD hba); have Ta := HC.out.2.1.below ba; obtain ⟨a0, a1, a2, a3, a4⟩ := HC.out.2.2.1 wa ba; clear hba; try dsimp only) | (go_at_call_of 58 (Value.int IntKind.i64 l.tries); refine (digitsOf_any l.tries _ hI_tries.1 hI_tries.2 (by first | exact Ta | exact Ta.drew)).mono ?_; rintro e wb ⟨rfl, hbb⟩; have bb : Below W0.heap.size W0 wb := ba.trans ((by first | exact hbb | exact undrewD hbb : Below wa.heap.size wa wb).mono ba.size); have Tb := HC.out.2.1.below bb; obtain ⟨b0, b1, b2, b3, b4⟩ := HC.out.2.2.1 wb bb; clear hbb; try dsimp only) | (go_at_call_of 58 (Value.int IntKind.i64 l.due); refine (digitsOf_any l.due _ hI_due.1 hI_due.2 (by first | exact Tb | exact Tb.drew)).mono ?_; rintro e wf ⟨rfl, hbf⟩; have bf : Below W0.heap.size W0 wf := bb.trans ((by first | exact hbf | exact undrewD hbf : Below wb.heap.size wb wf).mono bb.size); have Tf := HC.out.2.1.below bf; obtain ⟨f0, f1, f2, f3, f4⟩ := HC.out.2.2.1 wf bf; clear hbf; try dsimp only) | (go_at_call 57; refine (write_any n0 R wf.heap.size 4 wv ev rows (outW l) _ (HC.out.2.2.2 wf bf).1 (HC.out.2.2.2 wf bf).2.1 hc4 hl4 hr4 (HC.out.2.2.2 wf bf).2.2.1).mono ?_; rintro e wd ⟨rfl, hrd, hbd, hkd⟩; obtain ⟨d0, d1, d2, d3, d4⟩ := (HC.out.2.2.2 wf bf).2.2.2 wd hkd; try dsimp only))
      rename_i hHeld
      clear hHeld
      have HE : Hid ((∃ wv ev, Rep n0 R wd wv ev (rows0 ++ (rs.take (k + 1)).map outW)) ∧ Below n0 w0 wd) := by
        refine ⟨by rw [HN.out]; exact hrd, ?_⟩
        have h1 : Below W0.heap.size W0 (wf.alloc (.cells #[.string l.partner, .string (decS l.number), .string (decS l.tries), .string (decS l.due)] 9)) := bf.trans (((Below.refl _ wf).alloc (Nat.le_refl _) _).mono bf.size)
        have h0 : n0 ≤ W0.heap.size := by have := HC.out.1.size; have := H0.out.2.2.2; omega
        exact (HC.out.1.trans (h1.mono h0)).trans hbd
      clear hrd hbd hkd bf ba bb Ta Tb Tf
      go_wp2
      go_roundw
      case rel => exact ⟨k + 1, by go_num, by omega, HE.out.1, HE.out.2⟩
      case measure => simp [intOf]; omega
    · obtain rfl : k = rs.length := by omega
      have HE : Hid ((∃ wv ev, Rep n0 R wr wv ev (rows0 ++ rs.map outW)) ∧ Below n0 w0 wr) := by
        rw [List.take_length] at hrep
        exact ⟨⟨_, _, hrep⟩, hb⟩
      clear hrep hb
      go_wp2
      go_end0
      exact ⟨rfl, HE.out.1, HE.out.2⟩
set_option maxHeartbeats 4000000 in
theorem outboxText_impl (v : Value) (rs : List OutR) (w : World) (h : RowOu w v rs) (hT : TabOk w) : Calls Tryd.prog 19 #[v] w fun e w' => e = .returned (.string (outT rs)) ∧ Below w.heap.size w w' := by
  obtain ⟨A, cap, rfl⟩ := h.val
  have hlen := h.len
  have H0 : Hid (RowOu w (.slice A rs.length cap) rs ∧ TabOk w) := ⟨h, hT⟩
  have Q1 := outboxRight_impl (.slice A rs.length cap) rs w h
  obtain ⟨x, hx⟩ : ∃ x, x = ousB rs := ⟨_, rfl⟩
  have HX : Hid (x = ousB rs) := hx
  rw [← hx] at Q1
  clear h hT hx
  go_enter Tryd.func19, Tryd.ntmps19
  go_wp2_with fail
  refine Q1.mono ?_
  rintro e w1 ⟨rfl, hb1⟩
  have H1 : Hid (Below w.heap.size w w1 ∧ RowOu w1 (.slice A rs.length cap) rs ∧ TabOk w1) := ⟨hb1, H0.out.1.below hb1, H0.out.2.below hb1⟩
  clear hb1 Q1
  cases x with
  | false =>
    have HN : Hid (outT rs = ⟨#[]⟩) := outT_no HX.out.symm
    go_wp2
    go_ret
    exact ⟨by rw [HN.out]; rfl, H1.out.1⟩
  | true =>
    have hR := ousB_iff.1 HX.out.symm
    have hl := hR.len
    have HN : Hid (outT rs = txB (rs.map outW) ∧ (∀ l ∈ rs, OuZ l)) := ⟨outT_yes HX.out.symm, fun l hl => by
      obtain ⟨i, hi⟩ := List.mem_iff_getElem?.1 hl
      exact ouZ (hR.at_ i l hi).ok⟩
    clear hR
    have hA : Below w1.heap.size w1 (w1.alloc (.cells #[.slice none 0 0, .slice none 0 0] 61)) := (Below.refl _ _).alloc (Nat.le_refl _) _
    have HA : Hid (Below w1.heap.size w1 (w1.alloc (.cells #[.slice none 0 0, .slice none 0 0] 61))) := hA
    clear hA
    go_wp2_with fail
    refine (outbox_any w1.heap.size [] rs w1 _ _ _ _ H1.out.2.1 HA.out (Rep.new w1) H1.out.2.2 HN.out.2 (by simp; omega) (by simp; omega)).mono ?_
    rintro e w2 ⟨rfl, ⟨wv, ev, hr2⟩, hb2⟩
    rw [List.nil_append] at hr2
    have H2 : Hid (Rep w1.heap.size w1.heap.size w2 wv ev (rs.map outW) ∧ Below w1.heap.size w1 w2) := ⟨hr2, hb2⟩
    clear hr2 hb2
    go_wp2_with fail
    refine (text_any _ _ wv ev (rs.map outW) _ H2.out.1 (fun r hr => by obtain ⟨l, _, rfl⟩ := List.mem_map.1 hr; rw [outW_len]; omega) (by rw [outW_flat]; omega) (by rw [List.length_map]; omega) (Nat.le_trans (outs_len HN.out.2) (by omega))).mono ?_
    rintro e w3 ⟨rfl, hb3⟩
    have H3 : Hid (Below w.heap.size w w3) := H1.out.1.trans ((H2.out.2.trans (hb3.mono H2.out.2.size)).mono H1.out.1.size)
    clear hb3
    go_wp2
    go_ret
    exact ⟨by rw [HN.out.1]; rfl, H3.out⟩
end Go.Proofs.YtoccmgoglkdcpaaDoor
