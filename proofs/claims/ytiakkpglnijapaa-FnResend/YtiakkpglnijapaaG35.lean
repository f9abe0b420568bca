/- Texts of ours put together: RsR. -/
import Derived.Test.YtiakkpglnijapaaG33
import Derived.Test.YtiakkpglnijapaaG05
import Derived.Deep.RegionHeld3
namespace Go.Proofs.Ytiakkpglnijapaa
open Go.ChangeShapes Go.WideShapes Go.ChangeAt Go.RowKit
theorem bytesAt_belowR {w w' : World} {a : Option Addr} {len : Nat} {zs : List Int} (h : BytesAt w a len zs) (hb : Below w.heap.size w w') : BytesAt w' a len zs := by
  intro g
  obtain ⟨b, off, e, hc⟩ := h g
  exact ⟨b, off, e, fun i hi => (hb.cell (cell_lt (hc i hi))).trans (hc i hi)⟩
set_option maxRecDepth 100000 in
set_option maxHeartbeats 16000000 in
theorem drawOutboxRun_any (a : Option Addr) (len cap : Nat) (zs : List Int) (w : World) (hl : len ≤ 1048576) (hr : BytesAt w a len zs) :
    Calls Try.prog 11 #[.slice a len cap] w fun e w' => ∃ (l : OutR) (ad : Addr) (C : Nat) (ds : List Int), e = .returned (.tuple #[.agg #[.string l.partner, .int .i64 l.number, .string l.text, .int .i64 l.tries, .int .i64 l.due], .slice (some ad) ds.length C]) ∧ SmO l ∧ RowN w' (.slice (some ad) ds.length C) ds ∧ (∀ d ∈ ds, 0 ≤ d ∧ d ≤ 90000) ∧ ds.length ≤ 51 ∧ Below w.heap.size w w' := by
  obtain ⟨W0, hW0⟩ : ∃ W0, w.alloc (.cells #[.string ⟨#[]⟩, .int .i64 0, .string ⟨#[]⟩, .int .i64 0, .int .i64 0] 25) = W0 := ⟨_, rfl⟩
  have hb0 : Below w.heap.size w W0 := by rw [← hW0]; exact (Below.refl _ _).alloc (Nat.le_refl _) _
  have hr0 : W0.heap[w.heap.size]? = some (.cells #[.string ⟨#[]⟩, .int .i64 0, .string ⟨#[]⟩, .int .i64 0, .int .i64 0] 25) := by rw [← hW0]; exact World.alloc_heap_new _ _
  have HR : Hid (BytesAt W0 a len zs ∧ Below w.heap.size w W0 ∧ W0.heap[w.heap.size]? = some (.cells #[.string ⟨#[]⟩, .int .i64 0, .string ⟨#[]⟩, .int .i64 0, .int .i64 0] 25)) := ⟨bytesAt_belowR hr hb0, hb0, hr0⟩
  clear hr hb0 hr0
  go_enter Try.func11, Try.ntmps11
  go_upto_region 1 with fail
  try rw [hW0]
  clear hW0
  go_wp2_with fail
  refine (source_any a len cap zs _ hl HR.out.1).mono ?_
  rintro e w1 ⟨rfl, hs1, hb1⟩
  obtain ⟨B, hB⟩ : ∃ B, B = W0.heap.size := ⟨_, rfl⟩
  rw [← hB] at hs1
  have hwl := (Array.getElem?_eq_some_iff.1 HR.out.2.2).1
  have H1 : Hid (IsSrc B w1 ∧ Below w.heap.size w w1 ∧ w1.heap[w.heap.size]? = some (.cells #[.string ⟨#[]⟩, .int .i64 0, .string ⟨#[]⟩, .int .i64 0, .int .i64 0] 25) ∧ w.heap.size < B) := ⟨hs1, HR.out.2.1.trans (hb1.mono HR.out.2.1.size), (hb1.block _ hwl).trans HR.out.2.2, by omega⟩
  have HB : Hid (B = W0.heap.size) := hB
  clear hs1 hb1 HR hB hwl
  go_upto_region 2 with fail
  rw [← HB.out]
  clear HB
  go_wp2_with fail
  refine (l12Out_any B _ H1.out.1).mono ?_
  rintro e w2 ⟨l, rfl, hsm, s2, k2⟩
  obtain ⟨w3, hw3⟩ : ∃ w3, w2.alloc (.cells #[.string l.partner, .int .i64 l.number, .string l.text, .int .i64 l.tries, .int .i64 l.due] 25) = w3 := ⟨_, rfl⟩
  obtain ⟨P, hP⟩ : ∃ P, P = w2.heap.size := ⟨_, rfl⟩
  have hB2 := s2.lt
  have ha3 : Below w2.heap.size w2 w3 := by rw [← hw3]; exact (Below.refl _ _).alloc (Nat.le_refl _) _
  have hx3 : w3.heap[P]? = some (.cells #[.string l.partner, .int .i64 l.number, .string l.text, .int .i64 l.tries, .int .i64 l.due] 25) := by rw [← hw3, hP]; exact World.alloc_heap_new _ _
  have HSm : Hid (SmO l) := hsm
  have hb2 : Below w.heap.size w w2 := H1.out.2.1.trans (k2.below (by have := H1.out.2.2.2; omega) H1.out.2.1.size)
  have hr2 : w2.heap[w.heap.size]? = some (.cells #[.string ⟨#[]⟩, .int .i64 0, .string ⟨#[]⟩, .int .i64 0, .int .i64 0] 25) := (k2.block _ (Array.getElem?_eq_some_iff.1 H1.out.2.2.1).1 (by have := H1.out.2.2.2; omega)).trans H1.out.2.2.1
  have H3 : Hid (Below w.heap.size w w3 ∧ w3.heap[P]? = some (.cells #[.string l.partner, .int .i64 l.number, .string l.text, .int .i64 l.tries, .int .i64 l.due] 25) ∧ w3.heap[w.heap.size]? = some (.cells #[.string ⟨#[]⟩, .int .i64 0, .string ⟨#[]⟩, .int .i64 0, .int .i64 0] 25) ∧ B < P ∧ w.heap.size < B ∧ w.heap.size < P) := ⟨hb2.trans (ha3.mono hb2.size), hx3, (ha3.block _ (Array.getElem?_eq_some_iff.1 hr2).1).trans hr2, by omega, H1.out.2.2.2, by have := H1.out.2.2.2; omega⟩
  have HS3 : Hid (IsSrc B w3 ∧ B < w3.heap.size) := ⟨s2.below (ha3.mono (by omega)), by have := ha3.size; omega⟩
  have HW3 : Hid (w2.alloc (.cells #[.string l.partner, .int .i64 l.number, .string l.text, .int .i64 l.tries, .int .i64 l.due] 25) = w3 ∧ P = w2.heap.size) := ⟨hw3, hP⟩
  clear hw3 hP hB2 ha3 hx3 hsm hb2 hr2 s2 k2 H1
  go_upto_region 3 with fail
  try rw [HW3.out.1]
  try rw [← HW3.out.2]
  clear HW3
  have hN0 : NI B w3 (w3.alloc (.cells #[] 2)) (.slice (some ⟨w3.heap.size, 0, none⟩) 0 0) [] := ⟨HS3.out.1.below ((Below.refl _ _).alloc (by have := HS3.out.2; omega) _), (Keep.refl _ _).alloc _, by
    have := World.ownsRow_made (base := w3.heap.size) (e := 2) (size := 1) w3 #[] 0 (by simp) (by unfold maxLen; omega) (by simp)
    simpa using this, HS3.out.2, ⟨_, _, rfl⟩⟩
  have HN0 : Hid (NI B w3 (w3.alloc (.cells #[] 2)) (.slice (some ⟨w3.heap.size, 0, none⟩) 0 0) []) := hN0
  clear hN0
  go_wp2_with fail
  refine (n_any B 20 _ (by omega) (by omega) HN0.out.src).mono ?_
  rintro e w4 ⟨t0, rfl, t00, t01, s4, k4⟩
  have hN4 := HN0.out.keep k4 s4
  obtain ⟨_, _, _, _, _, _, size, hS⟩ := hN4.src
  have c3 := hS.c3
  have z0 := hS.size0
  have z1 := hS.size1
  have HN4 : Hid (NI B w3 w4 (.slice (some ⟨w3.heap.size, 0, none⟩) 0 0) []) := hN4
  clear hN4 hS s4 k4 HN0
  go_wp2_with fail
  refine (n_any B (8 + 3 * size) _ (by omega) (by omega) HN4.out.src).mono ?_
  rintro e w5 ⟨k5, rfl, k50, k51, s5, kk5⟩
  have HN5 : Hid (NI B w3 w5 (.slice (some ⟨w3.heap.size, 0, none⟩) 0 0) []) := HN4.out.keep kk5 s5
  have k52 : k5 ≤ 50 := by omega
  clear s5 kk5 HN4 c3 z0 z1 k51
  go_wp2_with fail
  go_loopw [6, 7, 8] (fun v tv kv wr => ∃ (xs : List Int) (t kk : Int), tv = .int .i64 t ∧ kv = .int .i64 kk ∧ 0 ≤ kk ∧ kk + (xs.length : Int) ≤ 50 ∧ 0 ≤ t ∧ t ≤ 20 + 5 * (xs.length : Int) ∧ (∀ d ∈ xs, 0 ≤ d ∧ d ≤ 90000) ∧ NI B w3 wr v xs) (fun _ _ kv _ => (intOf kv).toNat)
  case atStart => exact ⟨[], t0, k5, rfl, rfl, k50, by simpa using k52, t00, by simp; omega, fun d hd => by simp at hd, HN5.out⟩
  case round =>
    obtain ⟨xs, t, kk, rfl, rfl, hk0, hk1, ht0, ht1, hxs, hN⟩ := hrel
    have HXS : Hid (∀ d ∈ xs, 0 ≤ d ∧ d ≤ 90000) := hxs
    have HN : Hid (NI B w3 wr u6 xs) := hN
    clear hxs hN HN5
    by_cases hk : 0 < kk
    · go_wp2_with (at_builtin; refine wpList_appN (z := t) (zs := xs) (base := w3.heap.size) rfl _ _ rfl rfl rfl (HN.out.row.alloc _) (cell_newN _ _) (by omega) (by have h9 := HN.out.kp.size; simp only [World.size_alloc]; omega) ?_; rintro v6 w6 hown6 hgrow6 _; have hC4 := HN.out.app hown6 hgrow6 (by simp); clear hown6 hgrow6)
      refine (n_any B 4 _ (by omega) (by omega) hC4.src).mono ?_
      rintro e w7 ⟨p, rfl, p0, p1, s7, k7⟩
      have hC7 := hC4.keep k7 s7
      have HX2 : Hid (∀ d ∈ xs ++ [t], 0 ≤ d ∧ d ≤ 90000) := fun d hd => by
        rcases List.mem_append.1 hd with hd | hd
        · exact HXS.out d hd
        · rw [List.mem_singleton.1 hd]; omega
      clear hC4 s7 k7
      go_wp2
      go_roundw
      case rel => exact ⟨xs ++ [t], t + 1 + p, kk - 1, rfl, rfl, by omega, by simp; omega, by omega, by simp; omega, HX2.out, hC7⟩
      case measure => simp [intOf]; omega
    · have hk' : ¬ 0 < kk := hk
      go_wp2_with fail
      refine (one_any B 12 _ (by omega) (by omega) HN.out.src).mono ?_
      rintro e w6' ⟨on, rfl, s6, k6⟩
      have hN6 := HN.out.keep k6 s6
      clear s6 k6
      cases on with
      | false =>
        have hl6 : xs.length ≤ 50 := by omega
        obtain ⟨ad, C, rfl⟩ := hN6.nn
        have hq := hN6
        have hP6 : w6'.heap[P]? = some (.cells #[.string l.partner, .int .i64 l.number, .string l.text, .int .i64 l.tries, .int .i64 l.due] 25) := (hq.kp.block _ (Array.getElem?_eq_some_iff.1 H3.out.2.1).1 (by have := H3.out.2.2.2.1; omega)).trans H3.out.2.1
        have hR6 : w6'.heap[w.heap.size]? = some (.cells #[.string ⟨#[]⟩, .int .i64 0, .string ⟨#[]⟩, .int .i64 0, .int .i64 0] 25) := (hq.kp.block _ (Array.getElem?_eq_some_iff.1 H3.out.2.2.1).1 (by have := H3.out.2.2.2.2.1; omega)).trans H3.out.2.2.1
        obtain ⟨p0, p1, p2, p3, p4⟩ := box5 hP6
        obtain ⟨r0, r1, r2, r3, r4⟩ := box5 hR6
        have hrf : ∀ o, w6'.frozen? ⟨w.heap.size, o, none⟩ = false := fun o => by simp [World.frozen?, hR6]
        have hne : P ≠ w.heap.size := by have := H3.out.2.2.2.2.2; omega
        have HF : Hid (RowN (((((w6'.setCell ⟨w.heap.size, 0, none⟩ (.string l.partner)).setCell ⟨w.heap.size, 1, none⟩ (.int .i64 l.number)).setCell ⟨w.heap.size, 2, none⟩ (.string l.text)).setCell ⟨w.heap.size, 3, none⟩ (.int .i64 l.tries)).setCell ⟨w.heap.size, 4, none⟩ (.int .i64 l.due)) (.slice (some ad) (xs).length C) (xs) ∧ Below w.heap.size w (((((w6'.setCell ⟨w.heap.size, 0, none⟩ (.string l.partner)).setCell ⟨w.heap.size, 1, none⟩ (.int .i64 l.number)).setCell ⟨w.heap.size, 2, none⟩ (.string l.text)).setCell ⟨w.heap.size, 3, none⟩ (.int .i64 l.tries)).setCell ⟨w.heap.size, 4, none⟩ (.int .i64 l.due)) ∧ (((((w6'.setCell ⟨w.heap.size, 0, none⟩ (.string l.partner)).setCell ⟨w.heap.size, 1, none⟩ (.int .i64 l.number)).setCell ⟨w.heap.size, 2, none⟩ (.string l.text)).setCell ⟨w.heap.size, 3, none⟩ (.int .i64 l.tries)).setCell ⟨w.heap.size, 4, none⟩ (.int .i64 l.due)).heap[w.heap.size]? = some (.cells #[.string l.partner, .int .i64 l.number, .string l.text, .int .i64 l.tries, .int .i64 l.due] 25)) := by
          obtain ⟨b, hb, hL⟩ := LN.of_owns hq.row (by first | omega | (simp; omega))
          have hk4 : Keep w.heap.size w6' (((((w6'.setCell ⟨w.heap.size, 0, none⟩ (.string l.partner)).setCell ⟨w.heap.size, 1, none⟩ (.int .i64 l.number)).setCell ⟨w.heap.size, 2, none⟩ (.string l.text)).setCell ⟨w.heap.size, 3, none⟩ (.int .i64 l.tries)).setCell ⟨w.heap.size, 4, none⟩ (.int .i64 l.due)) := (((((Keep.refl _ _).setCell _ _).setCell _ _).setCell _ _).setCell _ _).setCell _ _
          have hlt := H3.out.1.size
          have h5 := H3.out.2.2.2.2.1
          have hb6 : Below w.heap.size w w6' := H3.out.1.trans (hq.kp.below (by omega) (by omega))
          have hwl := (Array.getElem?_eq_some_iff.1 H3.out.2.2.1).1
          exact ⟨(hL.of_block fun hn => hk4.block b (hL.lt hn) (by omega)).row, (((((hb6.setCell (Nat.le_refl _) _).setCell (Nat.le_refl _) _).setCell (Nat.le_refl _) _).setCell (Nat.le_refl _) _).setCell (Nat.le_refl _) _), set5 hR6⟩
        clear hP6 hR6 hq
        go_wp2
        obtain ⟨f0, f1, f2, f3, f4⟩ := box5 HF.out.2.2
        exact bodyPost_ret (v := .tuple #[.agg #[.string l.partner, .int .i64 l.number, .string l.text, .int .i64 l.tries, .int .i64 l.due], .slice (some ad) (xs).length C]) (by simp [results, Try.results11, go_sem, f0, f1, f2, f3, f4]) rfl ⟨l, ad, C, xs, rfl, HSm.out, HF.out.1, HXS.out, by first | omega | (simp; omega), HF.out.2.1⟩
      | true =>
        go_wp2_with fail
        refine (n_any B 9 _ (by omega) (by omega) hN6.src).mono ?_
        rintro e w8 ⟨q, rfl, q0, q1, s8, k8⟩
        have hN8 := hN6.keep k8 s8
        clear s8 k8 hN6
        have hl6 : xs.length ≤ 50 := by omega
        have HX2 : Hid (∀ d ∈ xs ++ [q], 0 ≤ d ∧ d ≤ 90000) := fun d hd => by
          rcases List.mem_append.1 hd with hd | hd
          · exact HXS.out d hd
          · rw [List.mem_singleton.1 hd]; omega
        go_upto_region 12 with (at_builtin; refine wpList_appN (z := q) (zs := xs) (base := w3.heap.size) rfl _ _ rfl rfl rfl (hN8.row.alloc _) (cell_newN _ _) (by omega) (by have h9 := hN8.kp.size; simp only [World.size_alloc]; omega) ?_; rintro v6 w6 hown6 hgrow6 _; have hC4 := hN8.app hown6 hgrow6 (by simp); clear hown6 hgrow6)
        obtain ⟨ad, C, rfl⟩ := hC4.nn
        have hq := hC4
        have hP6 : w6.heap[P]? = some (.cells #[.string l.partner, .int .i64 l.number, .string l.text, .int .i64 l.tries, .int .i64 l.due] 25) := (hq.kp.block _ (Array.getElem?_eq_some_iff.1 H3.out.2.1).1 (by have := H3.out.2.2.2.1; omega)).trans H3.out.2.1
        have hR6 : w6.heap[w.heap.size]? = some (.cells #[.string ⟨#[]⟩, .int .i64 0, .string ⟨#[]⟩, .int .i64 0, .int .i64 0] 25) := (hq.kp.block _ (Array.getElem?_eq_some_iff.1 H3.out.2.2.1).1 (by have := H3.out.2.2.2.2.1; omega)).trans H3.out.2.2.1
        obtain ⟨p0, p1, p2, p3, p4⟩ := box5 hP6
        obtain ⟨r0, r1, r2, r3, r4⟩ := box5 hR6
        have hrf : ∀ o, w6.frozen? ⟨w.heap.size, o, none⟩ = false := fun o => by simp [World.frozen?, hR6]
        have hne : P ≠ w.heap.size := by have := H3.out.2.2.2.2.2; omega
        have HF : Hid (RowN (((((w6.setCell ⟨w.heap.size, 0, none⟩ (.string l.partner)).setCell ⟨w.heap.size, 1, none⟩ (.int .i64 l.number)).setCell ⟨w.heap.size, 2, none⟩ (.string l.text)).setCell ⟨w.heap.size, 3, none⟩ (.int .i64 l.tries)).setCell ⟨w.heap.size, 4, none⟩ (.int .i64 l.due)) (.slice (some ad) (xs ++ [q]).length C) (xs ++ [q]) ∧ Below w.heap.size w (((((w6.setCell ⟨w.heap.size, 0, none⟩ (.string l.partner)).setCell ⟨w.heap.size, 1, none⟩ (.int .i64 l.number)).setCell ⟨w.heap.size, 2, none⟩ (.string l.text)).setCell ⟨w.heap.size, 3, none⟩ (.int .i64 l.tries)).setCell ⟨w.heap.size, 4, none⟩ (.int .i64 l.due)) ∧ (((((w6.setCell ⟨w.heap.size, 0, none⟩ (.string l.partner)).setCell ⟨w.heap.size, 1, none⟩ (.int .i64 l.number)).setCell ⟨w.heap.size, 2, none⟩ (.string l.text)).setCell ⟨w.heap.size, 3, none⟩ (.int .i64 l.tries)).setCell ⟨w.heap.size, 4, none⟩ (.int .i64 l.due)).heap[w.heap.size]? = some (.cells #[.string l.partner, .int .i64 l.number, .string l.text, .int .i64 l.tries, .int .i64 l.due] 25)) := by
          obtain ⟨b, hb, hL⟩ := LN.of_owns hq.row (by first | omega | (simp; omega))
          have hk4 : Keep w.heap.size w6 (((((w6.setCell ⟨w.heap.size, 0, none⟩ (.string l.partner)).setCell ⟨w.heap.size, 1, none⟩ (.int .i64 l.number)).setCell ⟨w.heap.size, 2, none⟩ (.string l.text)).setCell ⟨w.heap.size, 3, none⟩ (.int .i64 l.tries)).setCell ⟨w.heap.size, 4, none⟩ (.int .i64 l.due)) := (((((Keep.refl _ _).setCell _ _).setCell _ _).setCell _ _).setCell _ _).setCell _ _
          have hlt := H3.out.1.size
          have h5 := H3.out.2.2.2.2.1
          have hb6 : Below w.heap.size w w6 := H3.out.1.trans (hq.kp.below (by omega) (by omega))
          have hwl := (Array.getElem?_eq_some_iff.1 H3.out.2.2.1).1
          exact ⟨(hL.of_block fun hn => hk4.block b (hL.lt hn) (by omega)).row, (((((hb6.setCell (Nat.le_refl _) _).setCell (Nat.le_refl _) _).setCell (Nat.le_refl _) _).setCell (Nat.le_refl _) _).setCell (Nat.le_refl _) _), set5 hR6⟩
        clear hP6 hR6 hq
        go_wp2
        obtain ⟨f0, f1, f2, f3, f4⟩ := box5 HF.out.2.2
        exact bodyPost_ret (v := .tuple #[.agg #[.string l.partner, .int .i64 l.number, .string l.text, .int .i64 l.tries, .int .i64 l.due], .slice (some ad) (xs ++ [q]).length C]) (by simp [results, Try.results11, go_sem, f0, f1, f2, f3, f4]) rfl ⟨l, ad, C, xs ++ [q], rfl, HSm.out, HF.out.1, HX2.out, by first | omega | (simp; omega), HF.out.2.1⟩
end Go.Proofs.Ytiakkpglnijapaa
