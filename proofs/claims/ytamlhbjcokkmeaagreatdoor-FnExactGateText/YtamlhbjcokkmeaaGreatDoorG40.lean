/- Texts of ours put together: LtL, DfsL. -/
import Derived.Test.YtamlhbjcokkmeaaGreatDoorG24
import Derived.Test.YtamlhbjcokkmeaaGreatDoorG17
import Derived.Test.YtamlhbjcokkmeaaGreatDoorG38
import Derived.Deep.RegionHeld3
import Derived.Test.YtamlhbjcokkmeaaGreatDoorG25
namespace Go.Proofs.YtamlhbjcokkmeaaGreatDoor
open Go.ChangeShapes Go.WideShapes Go.ChangeAt Go.RowKit
set_option maxRecDepth 20000 in
set_option maxHeartbeats 16000000 in
theorem lines_any (R : Nat) (rows0 : List (List ByteArray)) (rs : List OLn) (q : ByteArray) (w0 : World) (v wv0 ev0 : Value) (w : World) (hv : RowOl w0 v rs) (hb0 : Below w0.heap.size w0 w) (hR : Rep w0.heap.size R w wv0 ev0 rows0) (hT : TabOk w0) (hz : ∀ l ∈ rs, LnOk l) (hl : rows0.flatten.length + 12 * rs.length ≤ 900000) (hr : rows0.length + rs.length ≤ 900000) :
    Calls Tryz.prog 29 #[.pointer (some ⟨R, 0, none⟩), v, .string q] w fun e w' => e = .returned (.tuple #[]) ∧ (∃ wv ev, Rep w0.heap.size R w' wv ev (rows0 ++ (rs.filter (goB q)).map lnW)) ∧ Below w0.heap.size w0 w' := by
  obtain ⟨A, cap, rfl⟩ := hv.val
  have hlen := hv.len
  obtain ⟨n0, hn0⟩ : ∃ n0, n0 = w0.heap.size := ⟨_, rfl⟩
  have H0 : Hid (RowOl w0 (.slice A rs.length cap) rs ∧ TabOk w0 ∧ (∀ l ∈ rs, LnOk l) ∧ n0 = w0.heap.size) := ⟨hv, hT, hz, hn0⟩
  have HS0 : Hid (Rep n0 R w wv0 ev0 rows0 ∧ Below n0 w0 w) := by rw [hn0]; exact ⟨hR, hb0⟩
  rw [← hn0]
  clear hv hT hz hR hb0 hn0
  go_enter Tryz.func29, Tryz.ntmps29
  go_wp2_with fail
  go_loopw [10] (fun ix wr => ∃ k : Nat, ix = .int .i64 (k : Int) ∧ k ≤ rs.length ∧ (∃ wv ev, Rep n0 R wr wv ev (rows0 ++ (lnK q rs k).map lnW)) ∧ Below n0 w0 wr) (fun ix _ => rs.length - (intOf ix).toNat)
  case atStart => exact ⟨0, rfl, by omega, ⟨_, _, by simpa [lnK] using HS0.out.1⟩, HS0.out.2⟩
  case round =>
    obtain ⟨k, rfl, hk, ⟨wv, ev, hrep⟩, hb⟩ := hrel
    by_cases hlt : k < rs.length
    · have hlt' : (k : Int) < (rs.length : Int) := by omega
      obtain ⟨b, o, cap', l, e, hs, hat, hz⟩ := (H0.out.1.below (by rw [← H0.out.2.2.2]; exact hb)).at hlt
      simp only [Value.slice.injEq, true_and] at e
      obtain ⟨rfl, rfl⟩ := e
      obtain ⟨rows, hrows⟩ : ∃ rows, rows = rows0 ++ (lnK q rs k).map lnW := ⟨_, rfl⟩
      rw [← hrows] at hrep
      have hkl := lnK_len q rs k
      have hrl : rows.length ≤ rows0.length + k := by rw [hrows, List.length_append, List.length_map]; omega
      have hrf : rows.flatten.length ≤ rows0.flatten.length + 12 * k := by rw [hrows, List.flatten_append, List.length_append, lnW_flat]; omega
      have HN : Hid (rows = rows0 ++ (lnK q rs k).map lnW) := hrows
      have HS : Hid (rs[k]? = some l) := hs
      have hok := H0.out.2.2.1 l (List.mem_of_getElem? hs)
      have hZ := lnZ hok
      have hI_no := hZ.n
      have hI_ordered := hZ.o
      have hI_sent := hZ.s
      have hI_got := hZ.g
      have hI_cut := hZ.c
      have hc4 : 0 < (lnW l).length := by rw [lnW_len]; omega
      have hl4 : rows.flatten.length + (lnW l).length ≤ 1000000 := by rw [lnW_len]; omega
      have hr4 : rows.length ≤ 1000000 := by omega
      obtain ⟨q0, q1, q2, q3, q4, q5, q6, q7⟩ := hat
      obtain ⟨W0, hW0⟩ : ∃ W0, wr.alloc (.cells #[.string l.partner, .string l.ref, .int .i64 l.no, .string l.item, .int .i64 l.ordered, .int .i64 l.sent, .int .i64 l.got, .int .i64 l.cut] 107) = W0 := ⟨_, rfl⟩
      obtain ⟨P, hP⟩ : ∃ P, P = wr.heap.size := ⟨_, rfl⟩
      have ha : Below wr.heap.size wr W0 := by rw [← hW0]; exact (Below.refl _ _).alloc (Nat.le_refl _) _
      have hbx : W0.heap[P]? = some (.cells #[.string l.partner, .string l.ref, .int .i64 l.no, .string l.item, .int .i64 l.ordered, .int .i64 l.sent, .int .i64 l.got, .int .i64 l.cut] 107) := by rw [← hW0, hP]; exact World.alloc_heap_new _ _
      have hn : n0 ≤ wr.heap.size := by rw [H0.out.2.2.2]; rw [H0.out.2.2.2] at hb; exact hb.size
      have hbW : Below n0 w0 W0 := hb.trans (ha.mono hn)
      have hRW : Rep n0 R W0 wv ev rows := hrep.below ha
      have HG : Hid (∀ Y, Below W0.heap.size W0 Y → (Below n0 w0 Y ∧ TabOk Y ∧ (∀ W, Below Y.heap.size Y W → W.cell? ⟨P, 0, none⟩ = some (.string l.partner) ∧ W.cell? ⟨P, 1, none⟩ = some (.string l.ref) ∧ W.cell? ⟨P, 2, none⟩ = some (.int .i64 l.no) ∧ W.cell? ⟨P, 3, none⟩ = some (.string l.item) ∧ W.cell? ⟨P, 4, none⟩ = some (.int .i64 l.ordered) ∧ W.cell? ⟨P, 5, none⟩ = some (.int .i64 l.sent) ∧ W.cell? ⟨P, 6, none⟩ = some (.int .i64 l.got) ∧ W.cell? ⟨P, 7, none⟩ = some (.int .i64 l.cut)) ∧ (∀ W, Below Y.heap.size Y W → Rep n0 R (W.alloc (.cells #[.string l.partner, .string l.ref, .string (decS l.no), .string l.item, .string ⟨#[111, 114, 100, 101, 114, 101, 100]⟩, .string (decS l.ordered), .string ⟨#[115, 101, 110, 116]⟩, .string (decS l.sent), .string ⟨#[103, 111, 116]⟩, .string (decS l.got), .string ⟨#[99, 117, 116]⟩, .string (decS l.cut)] 9)) wv ev rows ∧ (∀ (j : Nat) (t : ByteArray), (lnW l)[j]? = some t → (W.alloc (.cells #[.string l.partner, .string l.ref, .string (decS l.no), .string l.item, .string ⟨#[111, 114, 100, 101, 114, 101, 100]⟩, .string (decS l.ordered), .string ⟨#[115, 101, 110, 116]⟩, .string (decS l.sent), .string ⟨#[103, 111, 116]⟩, .string (decS l.got), .string ⟨#[99, 117, 116]⟩, .string (decS l.cut)] 9)).cell? ⟨W.heap.size, j, none⟩ = some (.string t)) ∧ n0 ≤ (W.alloc (.cells #[.string l.partner, .string l.ref, .string (decS l.no), .string l.item, .string ⟨#[111, 114, 100, 101, 114, 101, 100]⟩, .string (decS l.ordered), .string ⟨#[115, 101, 110, 116]⟩, .string (decS l.sent), .string ⟨#[103, 111, 116]⟩, .string (decS l.got), .string ⟨#[99, 117, 116]⟩, .string (decS l.cut)] 9)).heap.size ∧ (∀ W', KT (W.alloc (.cells #[.string l.partner, .string l.ref, .string (decS l.no), .string l.item, .string ⟨#[111, 114, 100, 101, 114, 101, 100]⟩, .string (decS l.ordered), .string ⟨#[115, 101, 110, 116]⟩, .string (decS l.sent), .string ⟨#[103, 111, 116]⟩, .string (decS l.got), .string ⟨#[99, 117, 116]⟩, .string (decS l.cut)] 9)) W' → W'.cell? ⟨P, 0, none⟩ = some (.string l.partner) ∧ W'.cell? ⟨P, 1, none⟩ = some (.string l.ref) ∧ W'.cell? ⟨P, 2, none⟩ = some (.int .i64 l.no) ∧ W'.cell? ⟨P, 3, none⟩ = some (.string l.item) ∧ W'.cell? ⟨P, 4, none⟩ = some (.int .i64 l.ordered) ∧ W'.cell? ⟨P, 5, none⟩ = some (.int .i64 l.sent) ∧ W'.cell? ⟨P, 6, none⟩ = some (.int .i64 l.got) ∧ W'.cell? ⟨P, 7, none⟩ = some (.int .i64 l.cut)))) ∧ Rep n0 R Y wv ev rows) := fun Y hY => by
        have h0 : n0 ≤ W0.heap.size := by have := ha.size; omega
        refine ⟨⟨hbW.trans (hY.mono h0), H0.out.2.1.below (by rw [← H0.out.2.2.2]; exact hbW.trans (hY.mono h0)), fun W hW => box8 (((hY.trans (hW.mono hY.size)).block _ (Array.getElem?_eq_some_iff.1 hbx).1).trans hbx), fun W hW0 => ?_⟩, hRW.below hY⟩
        have hW := hY.trans (hW0.mono hY.size)
        have hA : Below W.heap.size W (W.alloc (.cells #[.string l.partner, .string l.ref, .string (decS l.no), .string l.item, .string ⟨#[111, 114, 100, 101, 114, 101, 100]⟩, .string (decS l.ordered), .string ⟨#[115, 101, 110, 116]⟩, .string (decS l.sent), .string ⟨#[103, 111, 116]⟩, .string (decS l.got), .string ⟨#[99, 117, 116]⟩, .string (decS l.cut)] 9)) := (Below.refl _ _).alloc (Nat.le_refl _) _
        refine ⟨(hRW.below hW).below hA, fun j t hj => ?_, ?_, fun W' hk' => ?_⟩
        · have hj4 : j < 12 := (List.getElem?_eq_some_iff.1 hj).1
          have e := World.alloc_heap_new W (.cells #[.string l.partner, .string l.ref, .string (decS l.no), .string l.item, .string ⟨#[111, 114, 100, 101, 114, 101, 100]⟩, .string (decS l.ordered), .string ⟨#[115, 101, 110, 116]⟩, .string (decS l.sent), .string ⟨#[103, 111, 116]⟩, .string (decS l.got), .string ⟨#[99, 117, 116]⟩, .string (decS l.cut)] 9)
          unfold World.cell?
          match j, hj4 with
          | 0, _ => cases hj; rw [e]; rfl
          | 1, _ => cases hj; rw [e]; rfl
          | 2, _ => cases hj; rw [e]; rfl
          | 3, _ => cases hj; rw [e]; rfl
          | 4, _ => cases hj; rw [e]; rfl
          | 5, _ => cases hj; rw [e]; rfl
          | 6, _ => cases hj; rw [e]; rfl
          | 7, _ => cases hj; rw [e]; rfl
          | 8, _ => cases hj; rw [e]; rfl
          | 9, _ => cases hj; rw [e]; rfl
          | 10, _ => cases hj; rw [e]; rfl
          | 11, _ => cases hj; rw [e]; rfl
        · have h1 := hA.size
          have h2 := hW.size
          omega
        · have h1 := (hA.block _ (Array.getElem?_eq_some_iff.1 ((hW.block _ (Array.getElem?_eq_some_iff.1 hbx).1).trans hbx)).1).trans ((hW.block _ (Array.getElem?_eq_some_iff.1 hbx).1).trans hbx)
          exact box8 (hk' P _ _ h1 (by decide) (by decide) (by decide))
      have HW : Hid (wr.alloc (.cells #[.string l.partner, .string l.ref, .int .i64 l.no, .string l.item, .int .i64 l.ordered, .int .i64 l.sent, .int .i64 l.got, .int .i64 l.cut] 107) = W0 ∧ P = wr.heap.size) := ⟨hW0, hP⟩
      have HO : Hid (LnOk l) := hok
      clear hs hz hb hrep hrows hW0 hP ha hbW hRW hZ hok
      go_upto_region 3 with fail
      rw [HW.out.1, ← HW.out.2]
      obtain ⟨c0, c1, c2, c3, c4, c5, c6, c7⟩ := box8 hbx
      clear q0 q1 q2 q3 q4 q5 q6 q7 HW
      have Q1 := isOf_any l q
      obtain ⟨x, hx⟩ : ∃ x, x = isB q l := ⟨_, rfl⟩
      have HX : Hid (x = isB q l) := hx
      rw [← hx] at Q1
      clear hx
      go_wp2_with fail
      refine (Q1 _).mono ?_
      rintro e w5 ⟨rfl, hb5⟩
      have hlt0 := (Array.getElem?_eq_some_iff.1 hbx).1
      obtain ⟨d0, d1, d2, d3, d4, d5, d6, d7⟩ := box8 ((hb5.block _ hlt0).trans hbx)
      clear c0 c1 c2 c3 c4 c5 c6 c7 Q1
      cases x with
      | false =>
        have hbX : Below W0.heap.size W0 w5 := hb5
        clear hb5 hbx hlt0
        have HE : Hid ((∃ wv ev, Rep n0 R w5 wv ev (rows0 ++ (lnK q rs (k + 1)).map lnW)) ∧ Below n0 w0 w5) := by
          rw [lnK_no HS.out (by unfold goB; rw [← HX.out]; rfl), ← HN.out]
          exact ⟨⟨_, _, (HG.out _ hbX).2⟩, (HG.out _ hbX).1.1⟩
        clear hbX
        go_wp2
        go_roundw
        case rel => exact ⟨k + 1, by go_num, by omega, HE.out.1, HE.out.2⟩
        case measure => simp [intOf]; omega
      | true =>
        have Q2 := open_any l HO.out
        rw [← opnT_yes HO.out] at Q2
        obtain ⟨f, hf⟩ : ∃ f, f = opnT l := ⟨_, rfl⟩
        have HF : Hid (f = opnT l) := hf
        rw [← hf] at Q2
        clear hf
        go_wp2_with fail
        refine (Q2 _).mono ?_
        rintro e w6 ⟨rfl, hb6⟩
        have hb6' : Below W0.heap.size W0 w6 := hb5.trans (hb6.mono hb5.size)
        clear d0 d1 d2 d3 d4 d5 d6 d7 Q2 hb5 hb6
        obtain ⟨d0, d1, d2, d3, d4, d5, d6, d7⟩ := box8 ((hb6'.block _ hlt0).trans hbx)
        cases ef : (f == 0) with
        | false =>
          have hbX : Below W0.heap.size W0 w6 := hb6'
          have HFF : Hid ((opnT l == 0) = false) := by rw [← HF.out]; exact ef
          clear hb6' hbx hlt0
          obtain ⟨X, hX⟩ : ∃ X, X = w6 := ⟨_, rfl⟩
          have HC : Hid (Below n0 w0 X ∧ TabOk X ∧ (∀ W, Below X.heap.size X W → W.cell? ⟨P, 0, none⟩ = some (.string l.partner) ∧ W.cell? ⟨P, 1, none⟩ = some (.string l.ref) ∧ W.cell? ⟨P, 2, none⟩ = some (.int .i64 l.no) ∧ W.cell? ⟨P, 3, none⟩ = some (.string l.item) ∧ W.cell? ⟨P, 4, none⟩ = some (.int .i64 l.ordered) ∧ W.cell? ⟨P, 5, none⟩ = some (.int .i64 l.sent) ∧ W.cell? ⟨P, 6, none⟩ = some (.int .i64 l.got) ∧ W.cell? ⟨P, 7, none⟩ = some (.int .i64 l.cut)) ∧ (∀ W, Below X.heap.size X W → Rep n0 R (W.alloc (.cells #[.string l.partner, .string l.ref, .string (decS l.no), .string l.item, .string ⟨#[111, 114, 100, 101, 114, 101, 100]⟩, .string (decS l.ordered), .string ⟨#[115, 101, 110, 116]⟩, .string (decS l.sent), .string ⟨#[103, 111, 116]⟩, .string (decS l.got), .string ⟨#[99, 117, 116]⟩, .string (decS l.cut)] 9)) wv ev rows ∧ (∀ (j : Nat) (t : ByteArray), (lnW l)[j]? = some t → (W.alloc (.cells #[.string l.partner, .string l.ref, .string (decS l.no), .string l.item, .string ⟨#[111, 114, 100, 101, 114, 101, 100]⟩, .string (decS l.ordered), .string ⟨#[115, 101, 110, 116]⟩, .string (decS l.sent), .string ⟨#[103, 111, 116]⟩, .string (decS l.got), .string ⟨#[99, 117, 116]⟩, .string (decS l.cut)] 9)).cell? ⟨W.heap.size, j, none⟩ = some (.string t)) ∧ n0 ≤ (W.alloc (.cells #[.string l.partner, .string l.ref, .string (decS l.no), .string l.item, .string ⟨#[111, 114, 100, 101, 114, 101, 100]⟩, .string (decS l.ordered), .string ⟨#[115, 101, 110, 116]⟩, .string (decS l.sent), .string ⟨#[103, 111, 116]⟩, .string (decS l.got), .string ⟨#[99, 117, 116]⟩, .string (decS l.cut)] 9)).heap.size ∧ (∀ W', KT (W.alloc (.cells #[.string l.partner, .string l.ref, .string (decS l.no), .string l.item, .string ⟨#[111, 114, 100, 101, 114, 101, 100]⟩, .string (decS l.ordered), .string ⟨#[115, 101, 110, 116]⟩, .string (decS l.sent), .string ⟨#[103, 111, 116]⟩, .string (decS l.got), .string ⟨#[99, 117, 116]⟩, .string (decS l.cut)] 9)) W' → W'.cell? ⟨P, 0, none⟩ = some (.string l.partner) ∧ W'.cell? ⟨P, 1, none⟩ = some (.string l.ref) ∧ W'.cell? ⟨P, 2, none⟩ = some (.int .i64 l.no) ∧ W'.cell? ⟨P, 3, none⟩ = some (.string l.item) ∧ W'.cell? ⟨P, 4, none⟩ = some (.int .i64 l.ordered) ∧ W'.cell? ⟨P, 5, none⟩ = some (.int .i64 l.sent) ∧ W'.cell? ⟨P, 6, none⟩ = some (.int .i64 l.got) ∧ W'.cell? ⟨P, 7, none⟩ = some (.int .i64 l.cut)))) := by rw [hX]; exact (HG.out _ hbX).1
          have HK : Hid (rows0 ++ (lnK q rs (k + 1)).map lnW = rows ++ [lnW l]) := by
            show _ = _
            rw [lnK_yes HS.out (by unfold goB; rw [← HX.out, HFF.out]; rfl), HN.out]
            simp
          clear hbX
          go_upto_region 4 with fail
          rw [← hX]
          clear hX
          obtain ⟨c0, c1, c2, c3, c4, c5, c6, c7⟩ := HC.out.2.2.1 X (Below.refl _ _)
          go_region_held3 (fun W => W.cell? ⟨P, 0, none⟩ = some (.string l.partner) ∧ W.cell? ⟨P, 1, none⟩ = some (.string l.ref) ∧ W.cell? ⟨P, 2, none⟩ = some (.int .i64 l.no) ∧ W.cell? ⟨P, 3, none⟩ = some (.string l.item) ∧ W.cell? ⟨P, 4, none⟩ = some (.int .i64 l.ordered) ∧ W.cell? ⟨P, 5, none⟩ = some (.int .i64 l.sent) ∧ W.cell? ⟨P, 6, none⟩ = some (.int .i64 l.got) ∧ W.cell? ⟨P, 7, none⟩ = some (.int .i64 l.cut)) (go_keep) (first | (go_at_call_of 27 (Value.int IntKind.i64 l.no); refine (digitsOf_any l.no _ hI_no.1 hI_no.2 (by first | exact HC.out.2.1 | exact HC.out.2.1.drew)).mono ?_; rintro e wa ⟨rfl, hba⟩; have ba : Below X.heap.size X wa := (by first | exact hba | exact undrewD hba); have Ta := HC.out.2.1.below ba; obtain ⟨a0, a1, a2, a3, a4, a5, a6, a7⟩ := HC.out.2.2.1 wa ba; clear hba; try dsimp only) | (go_at_call_of 27 (Value.int IntKind.i64 l.ordered); refine (digitsOf_any l.ordered _ hI_ordered.1 hI_ordered.2 (by first | exact Ta | exact Ta.drew)).mono ?_; rintro e wb ⟨rfl, hbb⟩; have bb : Below X.heap.size X wb := ba.trans ((by first | exact hbb | exact undrewD hbb : Below wa.heap.size wa wb).mono ba.size); have Tb := HC.out.2.1.below bb; obtain ⟨b0, b1, b2, b3, b4, b5, b6, b7⟩ := HC.out.2.2.1 wb bb; clear hbb; try dsimp only) | (go_at_call_of 27 (Value.int IntKind.i64 l.sent); refine (digitsOf_any l.sent _ hI_sent.1 hI_sent.2 (by first | exact Tb | exact Tb.drew)).mono ?_; rintro e wg ⟨rfl, hbg⟩; have bg : Below X.heap.size X wg := bb.trans ((by first | exact hbg | exact undrewD hbg : Below wb.heap.size wb wg).mono bb.size); have Tg := HC.out.2.1.below bg; obtain ⟨g0, g1, g2, g3, g4, g5, g6, g7⟩ := HC.out.2.2.1 wg bg; clear hbg; try dsimp only) | (go_at_call_of 27 (Value.int IntKind.i64 l.got); refine (digitsOf_any l.got _ hI_got.1 hI_got.2 (by first | exact Tg | exact Tg.drew)).mono ?_; rintro e wh ⟨rfl, hbh⟩; have bh : Below X.heap.size X wh := bg.trans ((by first | exact hbh | exact undrewD hbh : Below wg.heap.size wg wh).mono bg.size); have Th := HC.out.2.1.below bh; obtain ⟨h0, h1, h2, h3, h4, h5, h6, h7⟩ := HC.out.2.2.1 wh bh; clear hbh; try dsimp only) | (go_at_call_of 27 (Value.int IntKind.i64 l.cut); refine (digitsOf_any l.cut _ hI_cut.1 hI_cut.2 (by first | exact Th | exact Th.drew)).mono ?_; rintro e wf ⟨rfl, hbf⟩; have bf : Below X.heap.size X wf := bh.trans ((by first | exact hbf | exact undrewD hbf : Below wh.heap.size wh wf).mono bh.size); have Tf := HC.out.2.1.below bf; obtain ⟨f0, f1, f2, f3, f4, f5, f6, f7⟩ := HC.out.2.2.1 wf bf; clear hbf; try dsimp only) | (go_at_call 26; refine (write_any n0 R wf.heap.size 12 wv ev rows (lnW l) _ (HC.out.2.2.2 wf bf).1 (HC.out.2.2.2 wf bf).2.1 hc4 hl4 hr4 (HC.out.2.2.2 wf bf).2.2.1).mono ?_; rintro e wd ⟨rfl, hrd, hbd, hkd⟩; obtain ⟨d0, d1, d2, d3, d4, d5, d6, d7⟩ := (HC.out.2.2.2 wf bf).2.2.2 wd hkd; try dsimp only))
          rename_i hHeld
          clear hHeld
          have HE : Hid ((∃ wv ev, Rep n0 R wd wv ev (rows0 ++ (lnK q rs (k + 1)).map lnW)) ∧ Below n0 w0 wd) := by
            refine ⟨by rw [HK.out]; exact hrd, ?_⟩
            have h1 : Below X.heap.size X (wf.alloc (.cells #[.string l.partner, .string l.ref, .string (decS l.no), .string l.item, .string ⟨#[111, 114, 100, 101, 114, 101, 100]⟩, .string (decS l.ordered), .string ⟨#[115, 101, 110, 116]⟩, .string (decS l.sent), .string ⟨#[103, 111, 116]⟩, .string (decS l.got), .string ⟨#[99, 117, 116]⟩, .string (decS l.cut)] 9)) := bf.trans (((Below.refl _ wf).alloc (Nat.le_refl _) _).mono bf.size)
            have h0 : n0 ≤ X.heap.size := by have := HC.out.1.size; have := H0.out.2.2.2; omega
            exact (HC.out.1.trans (h1.mono h0)).trans hbd
          clear hrd hbd hkd bf ba bb bg bh Ta Tb Tf Tg Th
          go_wp2
          go_roundw
          case rel => exact ⟨k + 1, by go_num, by omega, HE.out.1, HE.out.2⟩
          case measure => simp [intOf]; omega
        | true =>
          have Q3 := transit_any l HO.out
          rw [← trnT_yes HO.out] at Q3
          obtain ⟨g, hg⟩ : ∃ g, g = trnT l := ⟨_, rfl⟩
          have HGG : Hid (g = trnT l) := hg
          have HFF : Hid ((opnT l == 0) = true) := by rw [← HF.out]; exact ef
          rw [← hg] at Q3
          clear hg
          go_wp2_with fail
          refine (Q3 _).mono ?_
          rintro e w7 ⟨rfl, hb7⟩
          have hbX : Below W0.heap.size W0 w7 := hb6'.trans (hb7.mono hb6'.size)
          clear d0 d1 d2 d3 d4 d5 d6 d7 Q3 hb6' hb7
          obtain ⟨d0, d1, d2, d3, d4, d5, d6, d7⟩ := box8 ((hbX.block _ hlt0).trans hbx)
          clear hbx hlt0
          cases eg : (g == 0) with
          | false =>
            have HF2 : Hid ((trnT l == 0) = false) := by rw [← HGG.out]; exact eg
            obtain ⟨X, hX⟩ : ∃ X, X = w7 := ⟨_, rfl⟩
            have HC : Hid (Below n0 w0 X ∧ TabOk X ∧ (∀ W, Below X.heap.size X W → W.cell? ⟨P, 0, none⟩ = some (.string l.partner) ∧ W.cell? ⟨P, 1, none⟩ = some (.string l.ref) ∧ W.cell? ⟨P, 2, none⟩ = some (.int .i64 l.no) ∧ W.cell? ⟨P, 3, none⟩ = some (.string l.item) ∧ W.cell? ⟨P, 4, none⟩ = some (.int .i64 l.ordered) ∧ W.cell? ⟨P, 5, none⟩ = some (.int .i64 l.sent) ∧ W.cell? ⟨P, 6, none⟩ = some (.int .i64 l.got) ∧ W.cell? ⟨P, 7, none⟩ = some (.int .i64 l.cut)) ∧ (∀ W, Below X.heap.size X W → Rep n0 R (W.alloc (.cells #[.string l.partner, .string l.ref, .string (decS l.no), .string l.item, .string ⟨#[111, 114, 100, 101, 114, 101, 100]⟩, .string (decS l.ordered), .string ⟨#[115, 101, 110, 116]⟩, .string (decS l.sent), .string ⟨#[103, 111, 116]⟩, .string (decS l.got), .string ⟨#[99, 117, 116]⟩, .string (decS l.cut)] 9)) wv ev rows ∧ (∀ (j : Nat) (t : ByteArray), (lnW l)[j]? = some t → (W.alloc (.cells #[.string l.partner, .string l.ref, .string (decS l.no), .string l.item, .string ⟨#[111, 114, 100, 101, 114, 101, 100]⟩, .string (decS l.ordered), .string ⟨#[115, 101, 110, 116]⟩, .string (decS l.sent), .string ⟨#[103, 111, 116]⟩, .string (decS l.got), .string ⟨#[99, 117, 116]⟩, .string (decS l.cut)] 9)).cell? ⟨W.heap.size, j, none⟩ = some (.string t)) ∧ n0 ≤ (W.alloc (.cells #[.string l.partner, .string l.ref, .string (decS l.no), .string l.item, .string ⟨#[111, 114, 100, 101, 114, 101, 100]⟩, .string (decS l.ordered), .string ⟨#[115, 101, 110, 116]⟩, .string (decS l.sent), .string ⟨#[103, 111, 116]⟩, .string (decS l.got), .string ⟨#[99, 117, 116]⟩, .string (decS l.cut)] 9)).heap.size ∧ (∀ W', KT (W.alloc (.cells #[.string l.partner, .string l.ref, .string (decS l.no), .string l.item, .string ⟨#[111, 114, 100, 101, 114, 101, 100]⟩, .string (decS l.ordered), .string ⟨#[115, 101, 110, 116]⟩, .string (decS l.sent), .string ⟨#[103, 111, 116]⟩, .string (decS l.got), .string ⟨#[99, 117, 116]⟩, .string (decS l.cut)] 9)) W' → W'.cell? ⟨P, 0, none⟩ = some (.string l.partner) ∧ W'.cell? ⟨P, 1, none⟩ = some (.string l.ref) ∧ W'.cell? ⟨P, 2, none⟩ = some (.int .i64 l.no) ∧ W'.cell? ⟨P, 3, none⟩ = some (.string l.item) ∧ W'.cell? ⟨P, 4, none⟩ = some (.int .i64 l.ordered) ∧ W'.cell? ⟨P, 5, none⟩ = some (.int .i64 l.sent) ∧ W'.cell? ⟨P, 6, none⟩ = some (.int .i64 l.got) ∧ W'.cell? ⟨P, 7, none⟩ = some (.int .i64 l.cut)))) := by rw [hX]; exact (HG.out _ hbX).1
            have HK : Hid (rows0 ++ (lnK q rs (k + 1)).map lnW = rows ++ [lnW l]) := by
              show _ = _
              rw [lnK_yes HS.out (by unfold goB; rw [← HX.out, HFF.out, HF2.out]; rfl), HN.out]
              simp
            clear hbX
            go_upto_region 4 with fail
            rw [← hX]
            clear hX
            obtain ⟨c0, c1, c2, c3, c4, c5, c6, c7⟩ := HC.out.2.2.1 X (Below.refl _ _)
            go_region_held3 (fun W => W.cell? ⟨P, 0, none⟩ = some (.string l.partner) ∧ W.cell? ⟨P, 1, none⟩ = some (.string l.ref) ∧ W.cell? ⟨P, 2, none⟩ = some (.int .i64 l.no) ∧ W.cell? ⟨P, 3, none⟩ = some (.string l.item) ∧ W.cell? ⟨P, 4, none⟩ = some (.int .i64 l.ordered) ∧ W.cell? ⟨P, 5, none⟩ = some (.int .i64 l.sent) ∧ W.cell? ⟨P, 6, none⟩ = some (.int .i64 l.got) ∧ W.cell? ⟨P, 7, none⟩ = some (.int .i64 l.cut)) (go_keep) (first | (go_at_call_of 27 (Value.int IntKind.i64 l.no); refine (digitsOf_any l.no _ hI_no.1 hI_no.2 (by first | exact HC.out.2.1 | exact HC.out.2.1.drew)).mono ?_; rintro e wa ⟨rfl, hba⟩; have ba : Below X.heap.size X wa := (by first | exact hba | exact undrewD hba); have Ta := HC.out.2.1.below ba; obtain ⟨a0, a1, a2, a3, a4, a5, a6, a7⟩ := HC.out.2.2.1 wa ba; clear hba; try dsimp only) | (go_at_call_of 27 (Value.int IntKind.i64 l.ordered); refine (digitsOf_any l.ordered _ hI_ordered.1 hI_ordered.2 (by first | exact Ta | exact Ta.drew)).mono ?_; rintro e wb ⟨rfl, hbb⟩; have bb : Below X.heap.size X wb := ba.trans ((by first | exact hbb | exact undrewD hbb : Below wa.heap.size wa wb).mono ba.size); have Tb := HC.out.2.1.below bb; obtain ⟨b0, b1, b2, b3, b4, b5, b6, b7⟩ := HC.out.2.2.1 wb bb; clear hbb; try dsimp only) | (go_at_call_of 27 (Value.int IntKind.i64 l.sent); refine (digitsOf_any l.sent _ hI_sent.1 hI_sent.2 (by first | exact Tb | exact Tb.drew)).mono ?_; rintro e wg ⟨rfl, hbg⟩; have bg : Below X.heap.size X wg := bb.trans ((by first | exact hbg | exact undrewD hbg : Below wb.heap.size wb wg).mono bb.size); have Tg := HC.out.2.1.below bg; obtain ⟨g0, g1, g2, g3, g4, g5, g6, g7⟩ := HC.out.2.2.1 wg bg; clear hbg; try dsimp only) | (go_at_call_of 27 (Value.int IntKind.i64 l.got); refine (digitsOf_any l.got _ hI_got.1 hI_got.2 (by first | exact Tg | exact Tg.drew)).mono ?_; rintro e wh ⟨rfl, hbh⟩; have bh : Below X.heap.size X wh := bg.trans ((by first | exact hbh | exact undrewD hbh : Below wg.heap.size wg wh).mono bg.size); have Th := HC.out.2.1.below bh; obtain ⟨h0, h1, h2, h3, h4, h5, h6, h7⟩ := HC.out.2.2.1 wh bh; clear hbh; try dsimp only) | (go_at_call_of 27 (Value.int IntKind.i64 l.cut); refine (digitsOf_any l.cut _ hI_cut.1 hI_cut.2 (by first | exact Th | exact Th.drew)).mono ?_; rintro e wf ⟨rfl, hbf⟩; have bf : Below X.heap.size X wf := bh.trans ((by first | exact hbf | exact undrewD hbf : Below wh.heap.size wh wf).mono bh.size); have Tf := HC.out.2.1.below bf; obtain ⟨f0, f1, f2, f3, f4, f5, f6, f7⟩ := HC.out.2.2.1 wf bf; clear hbf; try dsimp only) | (go_at_call 26; refine (write_any n0 R wf.heap.size 12 wv ev rows (lnW l) _ (HC.out.2.2.2 wf bf).1 (HC.out.2.2.2 wf bf).2.1 hc4 hl4 hr4 (HC.out.2.2.2 wf bf).2.2.1).mono ?_; rintro e wd ⟨rfl, hrd, hbd, hkd⟩; obtain ⟨d0, d1, d2, d3, d4, d5, d6, d7⟩ := (HC.out.2.2.2 wf bf).2.2.2 wd hkd; try dsimp only))
            rename_i hHeld
            clear hHeld
            have HE : Hid ((∃ wv ev, Rep n0 R wd wv ev (rows0 ++ (lnK q rs (k + 1)).map lnW)) ∧ Below n0 w0 wd) := by
              refine ⟨by rw [HK.out]; exact hrd, ?_⟩
              have h1 : Below X.heap.size X (wf.alloc (.cells #[.string l.partner, .string l.ref, .string (decS l.no), .string l.item, .string ⟨#[111, 114, 100, 101, 114, 101, 100]⟩, .string (decS l.ordered), .string ⟨#[115, 101, 110, 116]⟩, .string (decS l.sent), .string ⟨#[103, 111, 116]⟩, .string (decS l.got), .string ⟨#[99, 117, 116]⟩, .string (decS l.cut)] 9)) := bf.trans (((Below.refl _ wf).alloc (Nat.le_refl _) _).mono bf.size)
              have h0 : n0 ≤ X.heap.size := by have := HC.out.1.size; have := H0.out.2.2.2; omega
              exact (HC.out.1.trans (h1.mono h0)).trans hbd
            clear hrd hbd hkd bf ba bb bg bh Ta Tb Tf Tg Th
            go_wp2
            go_roundw
            case rel => exact ⟨k + 1, by go_num, by omega, HE.out.1, HE.out.2⟩
            case measure => simp [intOf]; omega
          | true =>
            have HF2 : Hid ((trnT l == 0) = true) := by rw [← HGG.out]; exact eg
            have HE : Hid ((∃ wv ev, Rep n0 R w7 wv ev (rows0 ++ (lnK q rs (k + 1)).map lnW)) ∧ Below n0 w0 w7) := by
              rw [lnK_no HS.out (by unfold goB; rw [← HX.out, HFF.out, HF2.out]; rfl), ← HN.out]
              exact ⟨⟨_, _, (HG.out _ hbX).2⟩, (HG.out _ hbX).1.1⟩
            clear hbX
            go_wp2
            go_roundw
            case rel => exact ⟨k + 1, by go_num, by omega, HE.out.1, HE.out.2⟩
            case measure => simp [intOf]; omega
    · obtain rfl : k = rs.length := by omega
      have HE : Hid ((∃ wv ev, Rep n0 R wr wv ev (rows0 ++ (rs.filter (goB q)).map lnW)) ∧ Below n0 w0 wr) := by
        rw [lnK_all] at hrep
        exact ⟨⟨_, _, hrep⟩, hb⟩
      clear hrep hb
      go_wp2
      go_end0
      exact ⟨rfl, HE.out.1, HE.out.2⟩
end Go.Proofs.YtamlhbjcokkmeaaGreatDoor
namespace Go.Proofs.YtamlhbjcokkmeaaGreatDoor
open Go.ChangeShapes Go.WideShapes Go.ChangeAt Go.RowKit
set_option maxRecDepth 20000 in
set_option maxHeartbeats 8000000 in
theorem diffs_any (R : Nat) (rows0 : List (List ByteArray)) (rs : List Dff) (w0 : World) (v wv0 ev0 : Value) (w : World) (hv : RowDf w0 v rs) (hb0 : Below w0.heap.size w0 w) (hR : Rep w0.heap.size R w wv0 ev0 rows0) (hT : TabOk w0) (hz : ∀ l ∈ rs, DfB l) (hl : rows0.flatten.length + rs.length ≤ 900000) (hr : rows0.length + rs.length ≤ 900000) :
    Calls Tryz.prog 30 #[.pointer (some ⟨R, 0, none⟩), v] w fun e w' => e = .returned (.tuple #[]) ∧ (∃ wv ev, Rep w0.heap.size R w' wv ev (rows0 ++ rs.map dfR)) ∧ Below w0.heap.size w0 w' := by
  obtain ⟨A, cap, rfl⟩ := hv.val
  have hlen := hv.len
  obtain ⟨n0, hn0⟩ : ∃ n0, n0 = w0.heap.size := ⟨_, rfl⟩
  have H0 : Hid (RowDf w0 (.slice A rs.length cap) rs ∧ TabOk w0 ∧ (∀ l ∈ rs, DfB l) ∧ n0 = w0.heap.size) := ⟨hv, hT, hz, hn0⟩
  have HS : Hid (Rep n0 R w wv0 ev0 rows0 ∧ Below n0 w0 w) := by rw [hn0]; exact ⟨hR, hb0⟩
  rw [← hn0]
  clear hv hT hz hR hb0 hn0
  go_enter Tryz.func30, Tryz.ntmps30
  go_wp2_with fail
  go_loopw [8] (fun ix wr => ∃ k : Nat, ix = .int .i64 (k : Int) ∧ k ≤ rs.length ∧ (∃ wv ev, Rep n0 R wr wv ev (rows0 ++ (rs.take k).map dfR)) ∧ Below n0 w0 wr) (fun ix _ => rs.length - (intOf ix).toNat)
  case atStart => exact ⟨0, rfl, by omega, ⟨_, _, by simpa using HS.out.1⟩, HS.out.2⟩
  case round =>
    obtain ⟨k, rfl, hk, ⟨wv, ev, hrep⟩, hb⟩ := hrel
    by_cases hlt : k < rs.length
    · have hlt' : (k : Int) < (rs.length : Int) := by omega
      obtain ⟨b, o, cap', l, e, hs, hat, hz⟩ := (H0.out.1.below (by rw [← H0.out.2.2.2]; exact hb)).at hlt
      simp only [Value.slice.injEq, true_and] at e
      obtain ⟨rfl, rfl⟩ := e
      obtain ⟨rows, hrows⟩ : ∃ rows, rows = rows0 ++ (rs.take k).map dfR := ⟨_, rfl⟩
      rw [← hrows] at hrep
      have hrl : rows.length = rows0.length + k := by rw [hrows, List.length_append, List.length_map, List.length_take]; omega
      have hrf : rows.flatten.length = rows0.flatten.length + k := by rw [hrows, List.flatten_append, List.length_append, dfR_flat, List.length_take]; omega
      have HN : Hid (rows0 ++ (rs.take (k + 1)).map dfR = rows ++ [dfR l]) := by
        show _ = _
        rw [hrows, List.take_add_one, hs]
        simp
      have HZ : Hid (DfB l) := H0.out.2.2.1 l (List.mem_of_getElem? hs)
      have hc4 : 0 < (dfR l).length := by rw [dfR_len]; omega
      have hl4 : rows.flatten.length + (dfR l).length ≤ 1000000 := by rw [dfR_len]; omega
      have hr4 : rows.length ≤ 1000000 := by omega
      obtain ⟨q0, q1, q2, q3, q4, q5⟩ := hat
      obtain ⟨W0, hW0⟩ : ∃ W0, wr.alloc (.cells #[.int .i64 l.kind, .string l.partner, .string l.ref, .int .i64 l.no, .string l.item, .int .i64 l.qty] 110) = W0 := ⟨_, rfl⟩
      obtain ⟨P, hP⟩ : ∃ P, P = wr.heap.size := ⟨_, rfl⟩
      have ha : Below wr.heap.size wr W0 := by rw [← hW0]; exact (Below.refl _ _).alloc (Nat.le_refl _) _
      have hbx : W0.heap[P]? = some (.cells #[.int .i64 l.kind, .string l.partner, .string l.ref, .int .i64 l.no, .string l.item, .int .i64 l.qty] 110) := by rw [← hW0, hP]; exact World.alloc_heap_new _ _
      have hn : n0 ≤ wr.heap.size := by rw [H0.out.2.2.2]; rw [H0.out.2.2.2] at hb; exact hb.size
      have hbW : Below n0 w0 W0 := hb.trans (ha.mono hn)
      have HC : Hid (Below n0 w0 W0 ∧ TabOk W0 ∧ Rep n0 R W0 wv ev rows ∧ n0 ≤ W0.heap.size) := ⟨hbW, H0.out.2.1.below (by rw [← H0.out.2.2.2]; exact hbW), hrep.below ha, by have := ha.size; omega⟩
      have HW : Hid (wr.alloc (.cells #[.int .i64 l.kind, .string l.partner, .string l.ref, .int .i64 l.no, .string l.item, .int .i64 l.qty] 110) = W0 ∧ P = wr.heap.size) := ⟨hW0, hP⟩
      clear hs hz hb hrep hrows hW0 hP ha hbW
      go_upto_region 3 with fail
      rw [HW.out.1, ← HW.out.2]
      clear q0 q1 q2 q3 q4 q5 HW
      obtain ⟨c0, c1, c2, c3, c4, c5⟩ := box6' hbx
      clear hbx
      go_wp2_with fail
      refine (diffText_impl l _ HZ.out.z HZ.out.i.1 HZ.out.i.2.1 HZ.out.i.2.2 HC.out.2.1).mono ?_
      rintro e w2 ⟨rfl, hb2⟩
      have hA : Below w2.heap.size w2 (w2.alloc (.cells #[.string (dfT l)] 9)) := (Below.refl _ _).alloc (Nat.le_refl _) _
      have HA : Hid (Rep n0 R (w2.alloc (.cells #[.string (dfT l)] 9)) wv ev rows ∧ (∀ (j : Nat) (t : ByteArray), (dfR l)[j]? = some t → (w2.alloc (.cells #[.string (dfT l)] 9)).cell? ⟨w2.heap.size, j, none⟩ = some (.string t)) ∧ n0 ≤ (w2.alloc (.cells #[.string (dfT l)] 9)).heap.size ∧ Below n0 w0 (w2.alloc (.cells #[.string (dfT l)] 9))) := by
        have h0 := HC.out.2.2.2
        have h1 := hb2.size
        have h2 := hA.size
        refine ⟨(HC.out.2.2.1.below hb2).below hA, fun j t hj => ?_, by omega, HC.out.1.trans ((hb2.trans (hA.mono h1)).mono h0)⟩
        have hj4 : j < 1 := (List.getElem?_eq_some_iff.1 hj).1
        have e := World.alloc_heap_new w2 (.cells #[.string (dfT l)] 9)
        unfold World.cell?
        match j, hj4 with
        | 0, _ => cases hj; rw [e]; rfl
      clear hb2 hA c0 c1 c2 c3 c4 c5
      go_wp2_with fail
      refine (write_any n0 R w2.heap.size 1 wv ev rows (dfR l) _ HA.out.1 HA.out.2.1 hc4 hl4 hr4 HA.out.2.2.1).mono ?_
      rintro e wd ⟨rfl, hrd, hbd, hkd⟩
      have HE : Hid ((∃ wv ev, Rep n0 R wd wv ev (rows0 ++ (rs.take (k + 1)).map dfR)) ∧ Below n0 w0 wd) := ⟨by rw [HN.out]; exact hrd, HA.out.2.2.2.trans hbd⟩
      clear hrd hbd hkd
      go_wp2
      go_roundw
      case rel => exact ⟨k + 1, by go_num, by omega, HE.out.1, HE.out.2⟩
      case measure => simp [intOf]; omega
    · obtain rfl : k = rs.length := by omega
      have HE : Hid ((∃ wv ev, Rep n0 R wr wv ev (rows0 ++ rs.map dfR)) ∧ Below n0 w0 wr) := by
        rw [List.take_length] at hrep
        exact ⟨⟨_, _, hrep⟩, hb⟩
      clear hrep hb
      go_wp2
      go_end0
      exact ⟨rfl, HE.out.1, HE.out.2⟩
end Go.Proofs.YtamlhbjcokkmeaaGreatDoor
