/- Texts of ours put together: AnI. -/
import Derived.Test.YtmffigmidlgigaaGreatDoorG39
import Derived.Test.YtmffigmidlgigaaGreatDoorG20
import Derived.Test.YtmffigmidlgigaaGreatDoorG45
import Derived.Deep.RegionHeld3
import Derived.Deep.RegionLaw
import Derived.Laws.Concat
namespace Go.Proofs.YtmffigmidlgigaaGreatDoor
open Go.ChangeShapes Go.WideShapes Go.ChangeAt Go.RowKit
set_option maxRecDepth 20000 in
set_option maxHeartbeats 16000000 in
theorem gateAnswer_impl (g : Gat) (up uc us ul ud uo : Value) (t : ByteArray) (n c l : Int) (w : World) (h : RGt w up uc us ul ud uo g) (_ht : t.size ≤ 9223372036854775807) (hT : TabOk w) : Calls Tryz.prog 7 #[.agg #[.string g.name, .int .i64 g.day, up, uc, us, ul, ud, uo], .string t, .int .i64 n, .int .i64 c, .int .i64 l] w fun e w' => AnsA w (ansP g t n c l) e w' := by
  obtain ⟨a0, c0, a1, c1, a2, c2, a3, c3, a4, c4, a5, c5, rfl, rfl, rfl, rfl, rfl, rfl⟩ := h.val
  obtain ⟨W0, hW0⟩ : ∃ W0, (w.alloc (.cells #[.string g.name, .int .i64 g.day, .slice a0 g.ptns.length c0, .slice a1 g.crss.length c1, .slice a2 g.book.stocks.length c2, .slice a3 g.book.lines.length c3, .slice a4 g.dffs.length c4, .slice a5 g.outs.length c5] 47)).alloc (.cells #[.int .i64 0, .string ⟨#[]⟩, .string ⟨#[]⟩, .int .i64 0, .slice none 0 0, .slice none 0 0] 36) = W0 := ⟨_, rfl⟩
  obtain ⟨k0, k1⟩ := fl_twoG w (.cells #[.string g.name, .int .i64 g.day, .slice a0 g.ptns.length c0, .slice a1 g.crss.length c1, .slice a2 g.book.stocks.length c2, .slice a3 g.book.lines.length c3, .slice a4 g.dffs.length c4, .slice a5 g.outs.length c5] 47) (.cells #[.int .i64 0, .string ⟨#[]⟩, .string ⟨#[]⟩, .int .i64 0, .slice none 0 0, .slice none 0 0] 36)
  rw [hW0] at k0 k1
  have hb0 : Below w.heap.size w W0 := by rw [← hW0]; exact ((Below.refl _ _).alloc (Nat.le_refl _) _).alloc (by simp) _
  have HK : Hid (∀ W, Below W0.heap.size W0 W → (Below w.heap.size w W ∧ W.heap[w.heap.size + 1]? = some (.cells #[.int .i64 0, .string ⟨#[]⟩, .string ⟨#[]⟩, .int .i64 0, .slice none 0 0, .slice none 0 0] 36)) ∧ W.heap[w.heap.size]? = some (.cells #[.string g.name, .int .i64 g.day, .slice a0 g.ptns.length c0, .slice a1 g.crss.length c1, .slice a2 g.book.stocks.length c2, .slice a3 g.book.lines.length c3, .slice a4 g.dffs.length c4, .slice a5 g.outs.length c5] 47)) := fun W hW => ⟨⟨hb0.trans (hW.mono hb0.size), (hW.block _ (Array.getElem?_eq_some_iff.1 k1).1).trans k1⟩, (hW.block _ (Array.getElem?_eq_some_iff.1 k0).1).trans k0⟩
  have HG : Hid (RGt W0 (.slice a0 g.ptns.length c0) (.slice a1 g.crss.length c1) (.slice a2 g.book.stocks.length c2) (.slice a3 g.book.lines.length c3) (.slice a4 g.dffs.length c4) (.slice a5 g.outs.length c5) g ∧ TabOk w) := ⟨h.below hb0, hT⟩
  clear h hb0 hT
  go_enter Tryz.func7, Tryz.ntmps7
  go_upto_region 1 with fail
  try rw [hW0]
  clear hW0
  obtain ⟨x0, x1, x2, x3, x4, x5, x6, x7⟩ := bx8 k0
  clear k0 k1
  obtain ⟨x, hx⟩ : ∃ x, x = gtB g := ⟨_, rfl⟩
  have HX : Hid (x = gtB g) := hx
  have Q1 := fun W h => gateRight_impl g (.slice a0 g.ptns.length c0) (.slice a1 g.crss.length c1) (.slice a2 g.book.stocks.length c2) (.slice a3 g.book.lines.length c3) (.slice a4 g.dffs.length c4) (.slice a5 g.outs.length c5) W h
  rw [← hx] at Q1
  clear hx
  go_wp2_with fail
  refine (Q1 _ HG.out.1).mono ?_
  rintro e w1 ⟨rfl, hb1⟩
  have H1 : Hid (Below W0.heap.size W0 w1) := hb1
  clear hb1 Q1 x0 x1 x2 x3 x4 x5 x6 x7
  cases x with
  | false =>
    have HN : Hid (ansP g t n c l = noA) := ansP_no fun h => by have h1 := h.g; rw [← HX.out] at h1; cases h1
    have HEE : Hid (Below w.heap.size w w1 ∧ w1.heap[w.heap.size + 1]? = some (.cells #[.int .i64 0, .string ⟨#[]⟩, .string ⟨#[]⟩, .int .i64 0, .slice none 0 0, .slice none 0 0] 36)) := (HK.out w1 (by first | exact Below.refl _ _ | exact H1.out)).1
    obtain ⟨r0, r1, r2, r3, r4, r5⟩ := bx6A HEE.out.2
    have hfR : ∀ o, w1.frozen? ⟨w.heap.size + 1, o, none⟩ = false := fun o => by have := HEE.out.2; simp [World.frozen?, this]
    go_wp2
    obtain ⟨f0, f1, f2, f3, f4, f5⟩ := bx6A (st6A (y0 := .int .i64 0) (y1 := .string ⟨#[]⟩) (y2 := .string ⟨#[]⟩) (y3 := .int .i64 0) (y4 := .slice none 0 0) (y5 := .slice none 0 0) HEE.out.2)
    refine bodyPost_ret (v := .agg #[.int .i64 0, .string ⟨#[]⟩, .string ⟨#[]⟩, .int .i64 0, .slice none 0 0, .slice none 0 0]) (by simp [results, Tryz.results7, go_sem, f0, f1, f2, f3, f4, f5]) rfl ?_
    rw [HN.out]
    exact ansA_no (st6C HEE.out.1 (by omega))
  | true =>
    have QN := isName_any t
    have QC := isControl_any n
    have QK := isCode_any c
    cases h0 : nameB t
    case false =>
      rw [h0] at QN
      have HN : Hid (ansP g t n c l = noA) := ansP_no fun h => by have h1 := h.t; rw [h0] at h1; cases h1
      have HEE : Hid (Below w.heap.size w w1 ∧ w1.heap[w.heap.size + 1]? = some (.cells #[.int .i64 0, .string ⟨#[]⟩, .string ⟨#[]⟩, .int .i64 0, .slice none 0 0, .slice none 0 0] 36)) := (HK.out w1 (by first | exact Below.refl _ _ | exact H1.out)).1
      obtain ⟨r0, r1, r2, r3, r4, r5⟩ := bx6A HEE.out.2
      have hfR : ∀ o, w1.frozen? ⟨w.heap.size + 1, o, none⟩ = false := fun o => by have := HEE.out.2; simp [World.frozen?, this]
      go_wp2_with (first | (go_at_call 28; refine (QN _).mono ?_; rintro e w1 ⟨rfl, rfl⟩) | (go_at_call 29; refine (QC _).mono ?_; rintro e w1 ⟨rfl, rfl⟩) | (go_at_call 30; refine (QK _).mono ?_; rintro e w1 ⟨rfl, rfl⟩))
      obtain ⟨f0, f1, f2, f3, f4, f5⟩ := bx6A (st6A (y0 := .int .i64 0) (y1 := .string ⟨#[]⟩) (y2 := .string ⟨#[]⟩) (y3 := .int .i64 0) (y4 := .slice none 0 0) (y5 := .slice none 0 0) HEE.out.2)
      refine bodyPost_ret (v := .agg #[.int .i64 0, .string ⟨#[]⟩, .string ⟨#[]⟩, .int .i64 0, .slice none 0 0, .slice none 0 0]) (by simp [results, Tryz.results7, go_sem, f0, f1, f2, f3, f4, f5]) rfl ?_
      rw [HN.out]
      exact ansA_no (st6C HEE.out.1 (by omega))
    rw [h0] at QN
    cases h1 : ctlB n
    case false =>
      rw [h1] at QC
      have HN : Hid (ansP g t n c l = noA) := ansP_no fun h => by have h2 := h.n; rw [h1] at h2; cases h2
      have HEE : Hid (Below w.heap.size w w1 ∧ w1.heap[w.heap.size + 1]? = some (.cells #[.int .i64 0, .string ⟨#[]⟩, .string ⟨#[]⟩, .int .i64 0, .slice none 0 0, .slice none 0 0] 36)) := (HK.out w1 (by first | exact Below.refl _ _ | exact H1.out)).1
      obtain ⟨r0, r1, r2, r3, r4, r5⟩ := bx6A HEE.out.2
      have hfR : ∀ o, w1.frozen? ⟨w.heap.size + 1, o, none⟩ = false := fun o => by have := HEE.out.2; simp [World.frozen?, this]
      go_wp2_with (first | (go_at_call 28; refine (QN _).mono ?_; rintro e w1 ⟨rfl, rfl⟩) | (go_at_call 29; refine (QC _).mono ?_; rintro e w1 ⟨rfl, rfl⟩) | (go_at_call 30; refine (QK _).mono ?_; rintro e w1 ⟨rfl, rfl⟩))
      obtain ⟨f0, f1, f2, f3, f4, f5⟩ := bx6A (st6A (y0 := .int .i64 0) (y1 := .string ⟨#[]⟩) (y2 := .string ⟨#[]⟩) (y3 := .int .i64 0) (y4 := .slice none 0 0) (y5 := .slice none 0 0) HEE.out.2)
      refine bodyPost_ret (v := .agg #[.int .i64 0, .string ⟨#[]⟩, .string ⟨#[]⟩, .int .i64 0, .slice none 0 0, .slice none 0 0]) (by simp [results, Tryz.results7, go_sem, f0, f1, f2, f3, f4, f5]) rfl ?_
      rw [HN.out]
      exact ansA_no (st6C HEE.out.1 (by omega))
    rw [h1] at QC
    cases h2 : codeB c
    case false =>
      rw [h2] at QK
      have HN : Hid (ansP g t n c l = noA) := ansP_no fun h => by have e1 := h.c0; have e2 := h.c1; simp [codeB, e1, e2] at h2
      have HEE : Hid (Below w.heap.size w w1 ∧ w1.heap[w.heap.size + 1]? = some (.cells #[.int .i64 0, .string ⟨#[]⟩, .string ⟨#[]⟩, .int .i64 0, .slice none 0 0, .slice none 0 0] 36)) := (HK.out w1 (by first | exact Below.refl _ _ | exact H1.out)).1
      obtain ⟨r0, r1, r2, r3, r4, r5⟩ := bx6A HEE.out.2
      have hfR : ∀ o, w1.frozen? ⟨w.heap.size + 1, o, none⟩ = false := fun o => by have := HEE.out.2; simp [World.frozen?, this]
      go_wp2_with (first | (go_at_call 28; refine (QN _).mono ?_; rintro e w1 ⟨rfl, rfl⟩) | (go_at_call 29; refine (QC _).mono ?_; rintro e w1 ⟨rfl, rfl⟩) | (go_at_call 30; refine (QK _).mono ?_; rintro e w1 ⟨rfl, rfl⟩))
      obtain ⟨f0, f1, f2, f3, f4, f5⟩ := bx6A (st6A (y0 := .int .i64 0) (y1 := .string ⟨#[]⟩) (y2 := .string ⟨#[]⟩) (y3 := .int .i64 0) (y4 := .slice none 0 0) (y5 := .slice none 0 0) HEE.out.2)
      refine bodyPost_ret (v := .agg #[.int .i64 0, .string ⟨#[]⟩, .string ⟨#[]⟩, .int .i64 0, .slice none 0 0, .slice none 0 0]) (by simp [results, Tryz.results7, go_sem, f0, f1, f2, f3, f4, f5]) rfl ?_
      rw [HN.out]
      exact ansA_no (st6C HEE.out.1 (by omega))
    rw [h2] at QK
    have hc : 0 ≤ c ∧ c ≤ 13 := by simpa [codeB] using h2
    obtain ⟨hc0, hc1⟩ := hc
    by_cases hl0 : 0 ≤ l
    case neg =>
      have hl0' : l < 0 := by omega
      have HN : Hid (ansP g t n c l = noA) := ansP_no fun h => by have h2 := h.l0; omega
      have HEE : Hid (Below w.heap.size w w1 ∧ w1.heap[w.heap.size + 1]? = some (.cells #[.int .i64 0, .string ⟨#[]⟩, .string ⟨#[]⟩, .int .i64 0, .slice none 0 0, .slice none 0 0] 36)) := (HK.out w1 (by first | exact Below.refl _ _ | exact H1.out)).1
      obtain ⟨r0, r1, r2, r3, r4, r5⟩ := bx6A HEE.out.2
      have hfR : ∀ o, w1.frozen? ⟨w.heap.size + 1, o, none⟩ = false := fun o => by have := HEE.out.2; simp [World.frozen?, this]
      go_wp2_with (first | (go_at_call 28; refine (QN _).mono ?_; rintro e w1 ⟨rfl, rfl⟩) | (go_at_call 29; refine (QC _).mono ?_; rintro e w1 ⟨rfl, rfl⟩) | (go_at_call 30; refine (QK _).mono ?_; rintro e w1 ⟨rfl, rfl⟩))
      obtain ⟨f0, f1, f2, f3, f4, f5⟩ := bx6A (st6A (y0 := .int .i64 0) (y1 := .string ⟨#[]⟩) (y2 := .string ⟨#[]⟩) (y3 := .int .i64 0) (y4 := .slice none 0 0) (y5 := .slice none 0 0) HEE.out.2)
      refine bodyPost_ret (v := .agg #[.int .i64 0, .string ⟨#[]⟩, .string ⟨#[]⟩, .int .i64 0, .slice none 0 0, .slice none 0 0]) (by simp [results, Tryz.results7, go_sem, f0, f1, f2, f3, f4, f5]) rfl ?_
      rw [HN.out]
      exact ansA_no (st6C HEE.out.1 (by omega))
    have hl0' : decide (l < 0) = false := by simp; omega
    by_cases hl1 : l ≤ 1000000000
    case neg =>
      have hl1' : 1000000000 < l := by omega
      have HN : Hid (ansP g t n c l = noA) := ansP_no fun h => by have h2 := h.l1; omega
      have HEE : Hid (Below w.heap.size w w1 ∧ w1.heap[w.heap.size + 1]? = some (.cells #[.int .i64 0, .string ⟨#[]⟩, .string ⟨#[]⟩, .int .i64 0, .slice none 0 0, .slice none 0 0] 36)) := (HK.out w1 (by first | exact Below.refl _ _ | exact H1.out)).1
      obtain ⟨r0, r1, r2, r3, r4, r5⟩ := bx6A HEE.out.2
      have hfR : ∀ o, w1.frozen? ⟨w.heap.size + 1, o, none⟩ = false := fun o => by have := HEE.out.2; simp [World.frozen?, this]
      go_wp2_with (first | (go_at_call 28; refine (QN _).mono ?_; rintro e w1 ⟨rfl, rfl⟩) | (go_at_call 29; refine (QC _).mono ?_; rintro e w1 ⟨rfl, rfl⟩) | (go_at_call 30; refine (QK _).mono ?_; rintro e w1 ⟨rfl, rfl⟩))
      obtain ⟨f0, f1, f2, f3, f4, f5⟩ := bx6A (st6A (y0 := .int .i64 0) (y1 := .string ⟨#[]⟩) (y2 := .string ⟨#[]⟩) (y3 := .int .i64 0) (y4 := .slice none 0 0) (y5 := .slice none 0 0) HEE.out.2)
      refine bodyPost_ret (v := .agg #[.int .i64 0, .string ⟨#[]⟩, .string ⟨#[]⟩, .int .i64 0, .slice none 0 0, .slice none 0 0]) (by simp [results, Tryz.results7, go_sem, f0, f1, f2, f3, f4, f5]) rfl ?_
      rw [HN.out]
      exact ansA_no (st6C HEE.out.1 (by omega))
    have hl1' : decide (1000000000 < l) = false := by simp; omega
    have HY : Hid (ansP g t n c l = yesA g n c l) := ansP_yes ⟨HX.out.symm, h0, h1, hc0, hc1, hl0, hl1⟩
    have hn := ctlB_iff.1 h1
    have z1 := (decS_long n (by omega) (by omega)).2
    have e1 : (⟨#[65]⟩ : ByteArray).size = 1 := rfl
    have y1 : ∀ W, (Op.stringOp .add (⟨#[65]⟩ : ByteArray) (decS n)).run Tryz.prog W = .ok (.string ((⟨#[65]⟩ : ByteArray) ++ decS n)) W := fun W => run_string_add_sum _ _ _ (by simp only [e1]; omega)
    have QD := fun W h => digitsOf_any n W (by omega) (by omega) h
    have HC : Hid (∀ W, Below w1.heap.size w1 W → (W.cell? ⟨w.heap.size, 1, none⟩ = some (.int .i64 g.day)) ∧ (W.cell? ⟨w.heap.size + 1, 0, none⟩ = some (.int .i64 0) ∧ W.cell? ⟨w.heap.size + 1, 1, none⟩ = some (.string ⟨#[]⟩) ∧ W.cell? ⟨w.heap.size + 1, 2, none⟩ = some (.string ⟨#[]⟩) ∧ W.cell? ⟨w.heap.size + 1, 3, none⟩ = some (.int .i64 0) ∧ W.cell? ⟨w.heap.size + 1, 4, none⟩ = some (.slice none 0 0) ∧ W.cell? ⟨w.heap.size + 1, 5, none⟩ = some (.slice none 0 0)) ∧ (∀ o, W.frozen? ⟨w.heap.size + 1, o, none⟩ = false) ∧ (Below w.heap.size w W ∧ W.heap[w.heap.size + 1]? = some (.cells #[.int .i64 0, .string ⟨#[]⟩, .string ⟨#[]⟩, .int .i64 0, .slice none 0 0, .slice none 0 0] 36)) ∧ TabOk W) := fun W hW => by
      have hk := HK.out W (H1.out.trans (hW.mono H1.out.size))
      obtain ⟨q0, q1, q2, q3, q4, q5, q6, q7⟩ := bx8 hk.2
      exact ⟨q1, bx6A hk.1.2, fun o => by have := hk.1.2; simp [World.frozen?, this], hk.1, HG.out.2.below hk.1.1⟩
    have HTw : Hid (TabOk w1) := (HC.out w1 (Below.refl _ _)).2.2.2.2
    have HTa : Hid (∀ o, TabOk (w1.alloc o)) := fun o => HTw.out.below ((Below.refl _ _).alloc (Nat.le_refl _) o)
    have HTb : Hid (∀ o, TabOk (w1.drew.alloc o)) := fun o => HTw.out.drew.below ((Below.refl _ _).alloc (Nat.le_refl _) o)
    clear z1 e1 hn hl0 hl1 hc0 hc1 h0
    obtain ⟨d1, ⟨r0, r1, r2, r3, r4, r5⟩, hfR, _⟩ := HC.out w1 (Below.refl _ _)
    go_upto_region 3 with (first | (go_at_call 28; refine (QN _).mono ?_; rintro e w1 ⟨rfl, rfl⟩) | (go_at_call 29; refine (QC _).mono ?_; rintro e w1 ⟨rfl, rfl⟩) | (go_at_call 30; refine (QK _).mono ?_; rintro e w1 ⟨rfl, rfl⟩))
    go_region_held3 (fun W => W.cell? ⟨w.heap.size, 1, none⟩ = some (.int .i64 g.day)) (go_keep) (first | (go_at_call 31; refine (QD _ (by with_reducible first | exact HTw.out | exact HTw.out.drew | exact HTa.out _ | exact (HTa.out _).drew | exact HTb.out _)).mono ?_; rintro e wf ⟨rfl, hbf⟩; have hO : wf.heap[w1.heap.size]? = some (.cells #[.int .i64 c, .string ⟨#[]⟩, .int .i64 n, .int .i64 l, .string ⟨#[]⟩] 64) ∧ Below w1.heap.size w1 wf := (by with_reducible first | exact an_boxA hbf | exact an_boxB hbf | exact an_boxC hbf); clear hbf; obtain ⟨dA, ⟨v0, v1, v2, v3, v4, v5⟩, hfA, _⟩ := HC.out wf hO.2; try dsimp only) | (go_at_call 31; refine (QD _ (by with_reducible first | exact HTw.out | exact HTw.out.drew | exact HTa.out _ | exact (HTa.out _).drew | exact HTb.out _)).mono ?_; rintro e wf ⟨rfl, hbf⟩; have bf : Below w1.heap.size w1 wf := (by with_reducible first | exact hbf | exact undrewD hbf); clear hbf; have bg : Below w1.heap.size w1 (wf.alloc (.cells #[.int .i64 c, .string ⟨#[]⟩, .int .i64 n, .int .i64 l, .string ⟨#[]⟩] 64)) := bf.trans (((Below.refl _ wf).alloc (Nat.le_refl _) _).mono bf.size); obtain ⟨dB, ⟨v0, v1, v2, v3, v4, v5⟩, hfB, _⟩ := HC.out (wf.alloc (.cells #[.int .i64 c, .string ⟨#[]⟩, .int .i64 n, .int .i64 l, .string ⟨#[]⟩] 64)) bg; have dC := (HC.out wf bf).1; try dsimp only))
    all_goals (rename_i hHeld; clear hHeld)
    · have HEE : Hid ((Below w.heap.size w (wf.alloc (.cells #[.int .i64 c, .string ⟨#[]⟩, .int .i64 n, .int .i64 l, .string ⟨#[]⟩] 64)) ∧ (wf.alloc (.cells #[.int .i64 c, .string ⟨#[]⟩, .int .i64 n, .int .i64 l, .string ⟨#[]⟩] 64)).heap[w.heap.size + 1]? = some (.cells #[.int .i64 0, .string ⟨#[]⟩, .string ⟨#[]⟩, .int .i64 0, .slice none 0 0, .slice none 0 0] 36)) ∧ (wf.alloc (.cells #[.int .i64 c, .string ⟨#[]⟩, .int .i64 n, .int .i64 l, .string ⟨#[]⟩] 64)).heap[wf.heap.size]? = some (.cells #[.int .i64 c, .string ⟨#[]⟩, .int .i64 n, .int .i64 l, .string ⟨#[]⟩] 64) ∧ w.heap.size ≤ wf.heap.size ∧ wf.heap.size ≠ w.heap.size + 1) := by
        have q1 := (HC.out wf bf).2.2.2.1
        have q2 := (Array.getElem?_eq_some_iff.1 q1.2).1
        exact ⟨(HC.out _ bg).2.2.2.1, World.alloc_heap_new wf _, q1.1.size, by omega⟩
      clear bf bg dC dB
      go_wp2
      obtain ⟨f0, f1, f2, f3, f4, f5⟩ := bx6A (st6A (y0 := .int .i64 7) (y1 := .string ((⟨#[65]⟩ : ByteArray) ++ decS n)) (y2 := .string ⟨#[]⟩) (y3 := .int .i64 g.day) (y4 := .slice none 0 0) (y5 := .slice (some ⟨wf.heap.size, 0, none⟩) 1 1) HEE.out.1.2)
      refine bodyPost_ret (v := .agg #[.int .i64 7, .string ((⟨#[65]⟩ : ByteArray) ++ decS n), .string ⟨#[]⟩, .int .i64 g.day, .slice none 0 0, .slice (some ⟨wf.heap.size, 0, none⟩) 1 1]) (by simp [results, Tryz.results7, go_sem, f0, f1, f2, f3, f4, f5]) rfl ?_
      rw [HY.out]
      exact ansA_yes HEE.out.2.2.1 (st6B HEE.out.2.1 HEE.out.2.2.2) (st6C HEE.out.1.1 (by omega))
    · have HEE : Hid ((Below w.heap.size w wf ∧ wf.heap[w.heap.size + 1]? = some (.cells #[.int .i64 0, .string ⟨#[]⟩, .string ⟨#[]⟩, .int .i64 0, .slice none 0 0, .slice none 0 0] 36)) ∧ wf.heap[w1.heap.size]? = some (.cells #[.int .i64 c, .string ⟨#[]⟩, .int .i64 n, .int .i64 l, .string ⟨#[]⟩] 64) ∧ w.heap.size ≤ w1.heap.size ∧ w1.heap.size ≠ w.heap.size + 1) := by
        have q1 := (HC.out w1 (Below.refl _ _)).2.2.2.1
        have q2 := (Array.getElem?_eq_some_iff.1 q1.2).1
        exact ⟨(HC.out _ hO.2).2.2.2.1, hO.1, q1.1.size, by omega⟩
      clear hO dA
      go_wp2
      obtain ⟨f0, f1, f2, f3, f4, f5⟩ := bx6A (st6A (y0 := .int .i64 7) (y1 := .string ((⟨#[65]⟩ : ByteArray) ++ decS n)) (y2 := .string ⟨#[]⟩) (y3 := .int .i64 g.day) (y4 := .slice none 0 0) (y5 := .slice (some ⟨w1.heap.size, 0, none⟩) 1 1) HEE.out.1.2)
      refine bodyPost_ret (v := .agg #[.int .i64 7, .string ((⟨#[65]⟩ : ByteArray) ++ decS n), .string ⟨#[]⟩, .int .i64 g.day, .slice none 0 0, .slice (some ⟨w1.heap.size, 0, none⟩) 1 1]) (by simp [results, Tryz.results7, go_sem, f0, f1, f2, f3, f4, f5]) rfl ?_
      rw [HY.out]
      exact ansA_yes HEE.out.2.2.1 (st6B HEE.out.2.1 HEE.out.2.2.2) (st6C HEE.out.1.1 (by omega))
end Go.Proofs.YtmffigmidlgigaaGreatDoor
