/- Texts of ours put together: OtL, GttI. -/
import Derived.Test.YtamlhbjcokkmeaaGreatDoorG26
import Derived.Test.YtamlhbjcokkmeaaGreatDoorG32
import Derived.Deep.RegionHeld3
import Derived.Test.YtamlhbjcokkmeaaGreatDoorG33
import Derived.Test.YtamlhbjcokkmeaaGreatDoorG39
import Derived.Test.YtamlhbjcokkmeaaGreatDoorG40
namespace Go.Proofs.YtamlhbjcokkmeaaGreatDoor
open Go.ChangeShapes Go.WideShapes Go.ChangeAt Go.RowKit
set_option maxRecDepth 20000 in
set_option maxHeartbeats 8000000 in
theorem outbox_any (R : Nat) (rows0 : List (List ByteArray)) (rs : List OutR) (w0 : World) (v wv0 ev0 : Value) (w : World) (hv : RowOu w0 v rs) (hb0 : Below w0.heap.size w0 w) (hR : Rep w0.heap.size R w wv0 ev0 rows0) (hT : TabOk w0) (hz : ∀ l ∈ rs, OuZ l) (hl : rows0.flatten.length + 4 * rs.length ≤ 900000) (hr : rows0.length + rs.length ≤ 900000) :
    Calls Tryz.prog 31 #[.pointer (some ⟨R, 0, none⟩), v] w fun e w' => e = .returned (.tuple #[]) ∧ (∃ wv ev, Rep w0.heap.size R w' wv ev (rows0 ++ rs.map outW)) ∧ Below w0.heap.size w0 w' := by
  obtain ⟨A, cap, rfl⟩ := hv.val
  have hlen := hv.len
  obtain ⟨n0, hn0⟩ : ∃ n0, n0 = w0.heap.size := ⟨_, rfl⟩
  have H0 : Hid (RowOu w0 (.slice A rs.length cap) rs ∧ TabOk w0 ∧ (∀ l ∈ rs, OuZ l) ∧ n0 = w0.heap.size) := ⟨hv, hT, hz, hn0⟩
  have HS : Hid (Rep n0 R w wv0 ev0 rows0 ∧ Below n0 w0 w) := by rw [hn0]; exact ⟨hR, hb0⟩
  rw [← hn0]
  clear hv hT hz hR hb0 hn0
  go_enter Tryz.func31, Tryz.ntmps31
  go_wp2_with fail
  go_loopw [8] (fun ix wr => ∃ k : Nat, ix = .int .i64 (k : Int) ∧ k ≤ rs.length ∧ (∃ wv ev, Rep n0 R wr wv ev (rows0 ++ (rs.take k).map outW)) ∧ Below n0 w0 wr) (fun ix _ => rs.length - (intOf ix).toNat)
  case atStart => exact ⟨0, rfl, by omega, ⟨_, _, by simpa using HS.out.1⟩, HS.out.2⟩
  case round =>
    obtain ⟨k, rfl, hk, ⟨wv, ev, hrep⟩, hb⟩ := hrel
    by_cases hlt : k < rs.length
    · have hlt' : (k : Int) < (rs.length : Int) := by omega
      obtain ⟨b, o, cap', l, e, hs, hat, hz⟩ := (H0.out.1.below (by rw [← H0.out.2.2.2]; exact hb)).at hlt
      simp only [Value.slice.injEq, true_and] at e
      obtain ⟨rfl, rfl⟩ := e
      obtain ⟨rows, hrows⟩ : ∃ rows, rows = rows0 ++ (rs.take k).map outW := ⟨_, rfl⟩
      rw [← hrows] at hrep
      have hrl : rows.length = rows0.length + k := by rw [hrows, List.length_append, List.length_map, List.length_take]; omega
      have hrf : rows.flatten.length = rows0.flatten.length + 4 * k := by rw [hrows, List.flatten_append, List.length_append, outW_flat, List.length_take]; omega
      have HN : Hid (rows0 ++ (rs.take (k + 1)).map outW = rows ++ [outW l]) := by
        show _ = _
        rw [hrows, List.take_add_one, hs]
        simp
      have hZ := H0.out.2.2.1 l (List.mem_of_getElem? hs)
      have hI_number := hZ.n
      have hI_tries := hZ.t
      have hI_due := hZ.d
      have hc4 : 0 < (outW l).length := by rw [outW_len]; omega
      have hl4 : rows.flatten.length + (outW l).length ≤ 1000000 := by rw [outW_len]; omega
      have hr4 : rows.length ≤ 1000000 := by omega
      obtain ⟨q0, q1, q2, q3, q4⟩ := hat
      have hsz := hb.size
      obtain ⟨W0, hW0⟩ : ∃ W0, wr.alloc (.cells #[.string l.partner, .int .i64 l.number, .string l.text, .int .i64 l.tries, .int .i64 l.due] 111) = W0 := ⟨_, rfl⟩
      obtain ⟨P, hP⟩ : ∃ P, P = wr.heap.size := ⟨_, rfl⟩
      have ha : Below wr.heap.size wr W0 := by rw [← hW0]; exact (Below.refl _ _).alloc (Nat.le_refl _) _
      have hbx : W0.heap[P]? = some (.cells #[.string l.partner, .int .i64 l.number, .string l.text, .int .i64 l.tries, .int .i64 l.due] 111) := by rw [← hW0, hP]; exact World.alloc_heap_new _ _
      have hn : n0 ≤ wr.heap.size := by rw [H0.out.2.2.2]; rw [H0.out.2.2.2] at hb; exact hb.size
      have hbW : Below n0 w0 W0 := hb.trans (ha.mono hn)
      have hRW : Rep n0 R W0 wv ev rows := hrep.below ha
      have HC : Hid (Below n0 w0 W0 ∧ TabOk W0 ∧ (∀ W, Below W0.heap.size W0 W → W.cell? ⟨P, 0, none⟩ = some (.string l.partner) ∧ W.cell? ⟨P, 1, none⟩ = some (.int .i64 l.number) ∧ W.cell? ⟨P, 2, none⟩ = some (.string l.text) ∧ W.cell? ⟨P, 3, none⟩ = some (.int .i64 l.tries) ∧ W.cell? ⟨P, 4, none⟩ = some (.int .i64 l.due)) ∧ (∀ W, Below W0.heap.size W0 W → Rep n0 R (W.alloc (.cells #[.string l.partner, .string (decS l.number), .string (decS l.tries), .string (decS l.due)] 9)) wv ev rows ∧ (∀ (j : Nat) (t : ByteArray), (outW l)[j]? = some t → (W.alloc (.cells #[.string l.partner, .string (decS l.number), .string (decS l.tries), .string (decS l.due)] 9)).cell? ⟨W.heap.size, j, none⟩ = some (.string t)) ∧ n0 ≤ (W.alloc (.cells #[.string l.partner, .string (decS l.number), .string (decS l.tries), .string (decS l.due)] 9)).heap.size ∧ (∀ W', KT (W.alloc (.cells #[.string l.partner, .string (decS l.number), .string (decS l.tries), .string (decS l.due)] 9)) W' → W'.cell? ⟨P, 0, none⟩ = some (.string l.partner) ∧ W'.cell? ⟨P, 1, none⟩ = some (.int .i64 l.number) ∧ W'.cell? ⟨P, 2, none⟩ = some (.string l.text) ∧ W'.cell? ⟨P, 3, none⟩ = some (.int .i64 l.tries) ∧ W'.cell? ⟨P, 4, none⟩ = some (.int .i64 l.due)))) := by
        refine ⟨hbW, H0.out.2.1.below (by rw [← H0.out.2.2.2]; exact hbW), fun W hW => box5 ((hW.block _ (Array.getElem?_eq_some_iff.1 hbx).1).trans hbx), fun W hW => ?_⟩
        have hA : Below W.heap.size W (W.alloc (.cells #[.string l.partner, .string (decS l.number), .string (decS l.tries), .string (decS l.due)] 9)) := (Below.refl _ _).alloc (Nat.le_refl _) _
        refine ⟨(hRW.below hW).below hA, fun j t hj => ?_, ?_, fun W' hk' => ?_⟩
        · have hj4 : j < 4 := (List.getElem?_eq_some_iff.1 hj).1
          have e := World.alloc_heap_new W (.cells #[.string l.partner, .string (decS l.number), .string (decS l.tries), .string (decS l.due)] 9)
          unfold World.cell?
          match j, hj4 with
          | 0, _ => cases hj; rw [e]; rfl
          | 1, _ => cases hj; rw [e]; rfl
          | 2, _ => cases hj; rw [e]; rfl
          | 3, _ => cases hj; rw [e]; rfl
        · have h1 := hA.size
          have h2 := hW.size
          have h3 := ha.size
          omega
        · have h1 := (hA.block _ (Array.getElem?_eq_some_iff.1 ((hW.block _ (Array.getElem?_eq_some_iff.1 hbx).1).trans hbx)).1).trans ((hW.block _ (Array.getElem?_eq_some_iff.1 hbx).1).trans hbx)
          exact box5 (hk' P _ _ h1 (by decide) (by decide) (by decide))
      have HW : Hid (wr.alloc (.cells #[.string l.partner, .int .i64 l.number, .string l.text, .int .i64 l.tries, .int .i64 l.due] 111) = W0 ∧ P = wr.heap.size) := ⟨hW0, hP⟩
      clear hs hz hb hrep hrows hW0 hP ha hbx hbW hRW hZ
      go_upto_region 3 with fail
      rw [HW.out.1, ← HW.out.2]
      clear q0 q1 q2 q3 q4 HW
      obtain ⟨c0, c1, c2, c3, c4⟩ := HC.out.2.2.1 W0 (Below.refl _ _)
      go_region_held3 (fun W => W.cell? ⟨P, 0, none⟩ = some (.string l.partner) ∧ W.cell? ⟨P, 1, none⟩ = some (.int .i64 l.number) ∧ W.cell? ⟨P, 2, none⟩ = some (.string l.text) ∧ W.cell? ⟨P, 3, none⟩ = some (.int .i64 l.tries) ∧ W.cell? ⟨P, 4, none⟩ = some (.int .i64 l.due)) (go_keep) (first | (go_at_call_of 27 (Value.int IntKind.i64 l.number); refine (digitsOf_any l.number _ hI_number.1 hI_number.2 (by first | exact HC.out.2.1 | exact HC.out.2.1.drew)).mono ?_; rintro e wa ⟨rfl, hba⟩; have ba : Below W0.heap.size W0 wa := (by first | exact hba | exact undrewD hba); have Ta := HC.out.2.1.below ba; obtain ⟨a0, a1, a2, a3, a4⟩ := HC.out.2.2.1 wa ba; clear hba; try dsimp only) | (go_at_call_of 27 (Value.int IntKind.i64 l.tries); refine (digitsOf_any l.tries _ hI_tries.1 hI_tries.2 (by first | exact Ta | exact Ta.drew)).mono ?_; rintro e wb ⟨rfl, hbb⟩; have bb : Below W0.heap.size W0 wb := ba.trans ((by first | exact hbb | exact undrewD hbb : Below wa.heap.size wa wb).mono ba.size); have Tb := HC.out.2.1.below bb; obtain ⟨b0, b1, b2, b3, b4⟩ := HC.out.2.2.1 wb bb; clear hbb; try dsimp only) | (go_at_call_of 27 (Value.int IntKind.i64 l.due); refine (digitsOf_any l.due _ hI_due.1 hI_due.2 (by first | exact Tb | exact Tb.drew)).mono ?_; rintro e wf ⟨rfl, hbf⟩; have bf : Below W0.heap.size W0 wf := bb.trans ((by first | exact hbf | exact undrewD hbf : Below wb.heap.size wb wf).mono bb.size); have Tf := HC.out.2.1.below bf; obtain ⟨f0, f1, f2, f3, f4⟩ := HC.out.2.2.1 wf bf; clear hbf; try dsimp only) | (go_at_call 26; refine (write_any n0 R wf.heap.size 4 wv ev rows (outW l) _ (HC.out.2.2.2 wf bf).1 (HC.out.2.2.2 wf bf).2.1 hc4 hl4 hr4 (HC.out.2.2.2 wf bf).2.2.1).mono ?_; rintro e wd ⟨rfl, hrd, hbd, hkd⟩; obtain ⟨d0, d1, d2, d3, d4⟩ := (HC.out.2.2.2 wf bf).2.2.2 wd hkd; try dsimp only))
      rename_i hHeld
      clear hHeld
      have HE : Hid ((∃ wv ev, Rep n0 R wd wv ev (rows0 ++ (rs.take (k + 1)).map outW)) ∧ Below n0 w0 wd) := by
        refine ⟨by rw [HN.out]; exact hrd, ?_⟩
        have h1 : Below W0.heap.size W0 (wf.alloc (.cells #[.string l.partner, .string (decS l.number), .string (decS l.tries), .string (decS l.due)] 9)) := bf.trans (((Below.refl _ wf).alloc (Nat.le_refl _) _).mono bf.size)
        have h0 : n0 ≤ W0.heap.size := by have := HC.out.1.size; have := H0.out.2.2.2; omega
        exact (HC.out.1.trans (h1.mono h0)).trans hbd
      clear hrd hbd hkd bf ba bb Ta Tb Tf
      go_wp2
      go_roundw
      case rel => exact ⟨k + 1, by go_num, by omega, HE.out.1, HE.out.2⟩
      case measure => simp [intOf]; omega
    · obtain rfl : k = rs.length := by omega
      have HE : Hid ((∃ wv ev, Rep n0 R wr wv ev (rows0 ++ rs.map outW)) ∧ Below n0 w0 wr) := by
        rw [List.take_length] at hrep
        exact ⟨⟨_, _, hrep⟩, hb⟩
      clear hrep hb
      go_wp2
      go_end0
      exact ⟨rfl, HE.out.1, HE.out.2⟩
end Go.Proofs.YtamlhbjcokkmeaaGreatDoor
namespace Go.Proofs.YtamlhbjcokkmeaaGreatDoor
open Go.ChangeShapes Go.WideShapes Go.ChangeAt Go.RowKit
set_option maxRecDepth 20000 in
set_option maxHeartbeats 16000000 in
theorem gateText_impl (g : Gat) (up uc us ul ud uo : Value) (w : World) (h : RGt w up uc us ul ud uo g) (hz : ∀ d ∈ g.dffs, DfB d) (hT : TabOk w) : Calls Tryz.prog 7 #[.agg #[.string g.name, .int .i64 g.day, up, uc, us, ul, ud, uo]] w fun e w' => e = .returned (.string (gtxT g)) ∧ Below w.heap.size w w' := by
  have HT : Hid (TabOk w ∧ ∀ d ∈ g.dffs, DfB d) := ⟨hT, hz⟩
  clear hT hz
  obtain ⟨a0, c0, a1, c1, a2, c2, a3, c3, a4, c4, a5, c5, rfl, rfl, rfl, rfl, rfl, rfl⟩ := h.val
  obtain ⟨W0, hW0⟩ : ∃ W0, w.alloc (.cells #[.string g.name, .int .i64 g.day, .slice a0 g.ptns.length c0, .slice a1 g.crss.length c1, .slice a2 g.book.stocks.length c2, .slice a3 g.book.lines.length c3, .slice a4 g.dffs.length c4, .slice a5 g.outs.length c5] 43) = W0 := ⟨_, rfl⟩
  have hb0 : Below w.heap.size w W0 := by rw [← hW0]; exact (Below.refl _ _).alloc (Nat.le_refl _) _
  have hbx : W0.heap[w.heap.size]? = some (.cells #[.string g.name, .int .i64 g.day, .slice a0 g.ptns.length c0, .slice a1 g.crss.length c1, .slice a2 g.book.stocks.length c2, .slice a3 g.book.lines.length c3, .slice a4 g.dffs.length c4, .slice a5 g.outs.length c5] 43) := by rw [← hW0]; exact World.alloc_heap_new _ _
  have H0 : Hid (Below w.heap.size w W0 ∧ RGt W0 (.slice a0 g.ptns.length c0) (.slice a1 g.crss.length c1) (.slice a2 g.book.stocks.length c2) (.slice a3 g.book.lines.length c3) (.slice a4 g.dffs.length c4) (.slice a5 g.outs.length c5) g ∧ W0.heap[w.heap.size]? = some (.cells #[.string g.name, .int .i64 g.day, .slice a0 g.ptns.length c0, .slice a1 g.crss.length c1, .slice a2 g.book.stocks.length c2, .slice a3 g.book.lines.length c3, .slice a4 g.dffs.length c4, .slice a5 g.outs.length c5] 43)) := ⟨hb0, h.below hb0, hbx⟩
  obtain ⟨x0, x1, x2, x3, x4, x5, x6, x7⟩ := bx8 hbx
  have hlt0 := (Array.getElem?_eq_some_iff.1 hbx).1
  clear h hb0 hbx
  go_enter Tryz.func7, Tryz.ntmps7
  go_upto_region 1 with fail
  try rw [hW0]
  clear hW0
  obtain ⟨x, hx⟩ : ∃ x, x = gtB g := ⟨_, rfl⟩
  have HX : Hid (x = gtB g) := hx
  have Q1 := fun W h => gateRight_impl g (.slice a0 g.ptns.length c0) (.slice a1 g.crss.length c1) (.slice a2 g.book.stocks.length c2) (.slice a3 g.book.lines.length c3) (.slice a4 g.dffs.length c4) (.slice a5 g.outs.length c5) W h
  rw [← hx] at Q1
  clear hx
  go_wp2_with fail
  refine (Q1 _ H0.out.2.1).mono ?_
  rintro e w1 ⟨rfl, hb1⟩
  have H1 : Hid (Below w.heap.size w w1 ∧ RGt w1 (.slice a0 g.ptns.length c0) (.slice a1 g.crss.length c1) (.slice a2 g.book.stocks.length c2) (.slice a3 g.book.lines.length c3) (.slice a4 g.dffs.length c4) (.slice a5 g.outs.length c5) g ∧ w1.heap[w.heap.size]? = some (.cells #[.string g.name, .int .i64 g.day, .slice a0 g.ptns.length c0, .slice a1 g.crss.length c1, .slice a2 g.book.stocks.length c2, .slice a3 g.book.lines.length c3, .slice a4 g.dffs.length c4, .slice a5 g.outs.length c5] 43)) := ⟨H0.out.1.trans (hb1.mono H0.out.1.size), H0.out.2.1.below hb1, (hb1.block _ hlt0).trans H0.out.2.2⟩
  have hlt1 := (Array.getElem?_eq_some_iff.1 H1.out.2.2).1
  obtain ⟨d0, d1, d2, d3, d4, d5, d6, d7⟩ := bx8 H1.out.2.2
  clear hb1 x0 x1 x2 x3 x4 x5 x6 x7 Q1
  cases x with
  | false =>
    have HN : Hid (gtxT g = ⟨#[]⟩) := gtxT_no HX.out.symm
    go_wp2
    go_ret
    exact ⟨by rw [HN.out]; rfl, H1.out.1⟩
  | true =>
    have HG : Hid (GtOk g ∧ gtxT g = txB (gtR g)) := ⟨gtOk HX.out.symm, gtxT_yes HX.out.symm⟩
    obtain ⟨W2, hW2⟩ : ∃ W2, w1.alloc (.cells #[.slice none 0 0, .slice none 0 0] 66) = W2 := ⟨_, rfl⟩
    obtain ⟨R, hRR⟩ : ∃ R, R = w1.heap.size := ⟨_, rfl⟩
    have ha : Below w1.heap.size w1 W2 := by rw [← hW2]; exact (Below.refl _ _).alloc (Nat.le_refl _) _
    have hrep : Rep w1.heap.size R W2 (.slice none 0 0) (.slice none 0 0) [] := by rw [← hW2, hRR]; exact Rep.new w1
    obtain ⟨n1, hn1⟩ : ∃ n1, n1 = w1.heap.size := ⟨_, rfl⟩
    have HN1 : Hid (n1 = w1.heap.size ∧ TabOk w1) := ⟨hn1, HT.out.1.below H1.out.1⟩
    have HB : Hid (∀ W, Below n1 w1 W → W.heap[w.heap.size]? = w1.heap[w.heap.size]?) := fun W hW => by rw [hn1] at hW; exact hW.block _ hlt1
    rw [← hn1] at ha hrep
    have HA : Hid (Below n1 w1 W2 ∧ Rep n1 R W2 (.slice none 0 0) (.slice none 0 0) [] ∧ Below w1.heap.size w1 W2) := ⟨ha, hrep, by rw [hn1] at ha; exact ha⟩
    have hdy := HG.out.1.day
    clear d0 d1 d2 d3 d4 d5 d6 d7
    obtain ⟨d0, d1, d2, d3, d4, d5, d6, d7⟩ := bx8 ((HB.out W2 ha).trans H1.out.2.2)
    have HW : Hid (w1.alloc (.cells #[.slice none 0 0, .slice none 0 0] 66) = W2 ∧ R = w1.heap.size) := ⟨hW2, hRR⟩
    clear hW2 hRR ha hrep hn1
    go_upto_region 4 with fail
    rw [HW.out.1, ← HW.out.2]
    clear HW
    go_wp2_with fail
    refine (digitsOf_any g.day _ (by omega) (by omega) (HN1.out.2.below HA.out.2.2)).mono ?_
    rintro e w3 ⟨rfl, hb3⟩
    obtain ⟨WA, hWA⟩ : ∃ WA, w3.alloc (.cells #[.string ⟨#[100, 97, 121]⟩, .string (decS g.day)] 9) = WA := ⟨_, rfl⟩
    obtain ⟨Q, hQ⟩ : ∃ Q, Q = w3.heap.size := ⟨_, rfl⟩
    have hA : Below w3.heap.size w3 WA := by rw [← hWA]; exact (Below.refl _ _).alloc (Nat.le_refl _) _
    have hAx : WA.heap[Q]? = some (.cells #[.string ⟨#[100, 97, 121]⟩, .string (decS g.day)] 9) := by rw [← hWA, hQ]; exact World.alloc_heap_new _ _
    have h23 : Below W2.heap.size W2 WA := hb3.trans (hA.mono hb3.size)
    have hs2 : n1 ≤ W2.heap.size := by have := HA.out.2.2.size; have := HN1.out.1; omega
    have QW := write_any n1 R Q 2 _ _ [] (dayW g) WA (HA.out.2.1.below h23) (fun j t hj => by
      have hj2 : j < 2 := (List.getElem?_eq_some_iff.1 hj).1
      unfold World.cell?
      match j, hj2 with
      | 0, _ => cases hj; rw [hAx]; rfl
      | 1, _ => cases hj; rw [hAx]; rfl) (by rw [dayW_len]; omega) (by rw [dayW_len]; simp) (by simp) (by have := h23.size; omega)
    rw [dayW_len] at QW
    have HQW : Hid (Below n1 w1 WA ∧ Calls Tryz.prog 26 #[.pointer (some ⟨R, 0, none⟩), .slice (some ⟨Q, 0, none⟩) 2 2] WA fun e w' => e = .returned (.tuple #[]) ∧ (∃ wv' ev', Rep n1 R w' wv' ev' [dayW g]) ∧ Below n1 WA w' ∧ KT WA w') := ⟨HA.out.1.trans (h23.mono hs2), QW⟩
    have HWA : Hid (w3.alloc (.cells #[.string ⟨#[100, 97, 121]⟩, .string (decS g.day)] 9) = WA ∧ Q = w3.heap.size) := ⟨hWA, hQ⟩
    clear QW hA hAx hWA hQ hb3 h23 hs2 d0 d1 d2 d3 d4 d5 d6 d7
    go_wp2_with fail
    try rw [HWA.out.1, ← HWA.out.2]
    refine HQW.out.2.mono ?_
    rintro e w4 ⟨rfl, ⟨wv4, ev4, hr4⟩, hb4, _⟩
    have HSw4 : Hid (Rep n1 R w4 wv4 ev4 [dayW g] ∧ Below n1 w1 w4) := ⟨hr4, HQW.out.1.trans hb4⟩
    clear hr4 hb4 HWA
    obtain ⟨d0, d1, d2, d3, d4, d5, d6, d7⟩ := bx8 ((HB.out w4 HSw4.out.2).trans H1.out.2.2)
    have QS := stock_any R [dayW g] g.book _ _ w1 wv4 ev4 w4 H1.out.2.1.bk HG.out.1.bk (by rw [← HN1.out.1]; exact HSw4.out.2) (by rw [← HN1.out.1]; exact HSw4.out.1) HN1.out.2 (by simp [dayW_len]) (by simp)
    rw [← HN1.out.1] at QS
    clear HQW
    go_wp2_with fail
    refine QS.mono ?_
    rintro e w5 ⟨rfl, ⟨wv5, ev5, hr5⟩, hb5⟩
    have HSw5 : Hid (Rep n1 R w5 wv5 ev5 (gtR1 g) ∧ Below n1 w1 w5) := ⟨hr5, hb5⟩
    clear hr5 hb5 QS d0 d1 d2 d3 d4 d5 d6 d7
    obtain ⟨d0, d1, d2, d3, d4, d5, d6, d7⟩ := bx8 ((HB.out w5 HSw5.out.2).trans H1.out.2.2)
    have hk1 := gt_len1 (g := g)
    have hll := (bkB_iff.1 HG.out.1.bk).2.len
    have QL := lines_any R (gtR1 g) g.book.lines ⟨#[]⟩ w1 (.slice a3 g.book.lines.length c3) wv5 ev5 w5 H1.out.2.1.bk.ln (by rw [← HN1.out.1]; exact HSw5.out.2) (by rw [← HN1.out.1]; exact HSw5.out.1) HN1.out.2 (fun l hl => (bkB_iff.1 HG.out.1.bk).2.ok l hl) (by omega) (by omega)
    rw [← HN1.out.1] at QL
    clear hk1 hll
    go_wp2_with fail
    refine QL.mono ?_
    rintro e w6 ⟨rfl, ⟨wv6, ev6, hr6⟩, hb6⟩
    have HSw6 : Hid (Rep n1 R w6 wv6 ev6 (gtR2 g) ∧ Below n1 w1 w6) := ⟨hr6, hb6⟩
    clear hr6 hb6 QL d0 d1 d2 d3 d4 d5 d6 d7
    obtain ⟨d0, d1, d2, d3, d4, d5, d6, d7⟩ := bx8 ((HB.out w6 HSw6.out.2).trans H1.out.2.2)
    have hk2 := gt_len2 HG.out.1
    have hld := HG.out.1.df
    have QD := diffs_any R (gtR2 g) g.dffs w1 (.slice a4 g.dffs.length c4) wv6 ev6 w6 H1.out.2.1.df (by rw [← HN1.out.1]; exact HSw6.out.2) (by rw [← HN1.out.1]; exact HSw6.out.1) HN1.out.2 HT.out.2 (by omega) (by omega)
    rw [← HN1.out.1] at QD
    clear hk2 hld
    go_wp2_with fail
    refine QD.mono ?_
    rintro e w7 ⟨rfl, ⟨wv7, ev7, hr7⟩, hb7⟩
    have HSw7 : Hid (Rep n1 R w7 wv7 ev7 (gtR3 g) ∧ Below n1 w1 w7) := ⟨hr7, hb7⟩
    clear hr7 hb7 QD d0 d1 d2 d3 d4 d5 d6 d7
    obtain ⟨d0, d1, d2, d3, d4, d5, d6, d7⟩ := bx8 ((HB.out w7 HSw7.out.2).trans H1.out.2.2)
    have hk3 := gt_len3 HG.out.1
    have hlo := (ousB_iff.1 HG.out.1.ou).len
    have QO := outbox_any R (gtR3 g) g.outs w1 (.slice a5 g.outs.length c5) wv7 ev7 w7 H1.out.2.1.ou (by rw [← HN1.out.1]; exact HSw7.out.2) (by rw [← HN1.out.1]; exact HSw7.out.1) HN1.out.2 (fun l hl => ouZ ((ousB_iff.1 HG.out.1.ou).ok l hl)) (by omega) (by omega)
    rw [← HN1.out.1] at QO
    clear hk3 hlo
    go_wp2_with fail
    refine QO.mono ?_
    rintro e w8 ⟨rfl, ⟨wv8, ev8, hr8⟩, hb8⟩
    have HSw8 : Hid (Rep n1 R w8 wv8 ev8 (gtR g) ∧ Below n1 w1 w8) := ⟨hr8, hb8⟩
    clear hr8 hb8 QO d0 d1 d2 d3 d4 d5 d6 d7
    have hk4 := gt_len HG.out.1
    go_wp2_with fail
    refine (text_any _ _ wv8 ev8 (gtR g) _ HSw8.out.1 gt_pos (by omega) (by omega) (gt_txl HG.out.1 HT.out.2)).mono ?_
    rintro e w9 ⟨rfl, hb9⟩
    have H9 : Hid (Below w.heap.size w w9) := H1.out.1.trans (((by rw [← HN1.out.1]; exact HSw8.out.2 : Below w1.heap.size w1 w8).trans (hb9.mono (by have := HSw8.out.2.size; have := HN1.out.1; omega))).mono H1.out.1.size)
    clear hb9
    go_wp2
    go_ret
    exact ⟨by rw [HG.out.2]; rfl, H9.out⟩
end Go.Proofs.YtamlhbjcokkmeaaGreatDoor
