/- Texts of ours put together: GpSc. -/
import Derived.Test.YtkgkahlhekecmaaGreatG47
import Derived.Test.YtkgkahlhekecmaaGreatG36
import Derived.Test.YtkgkahlhekecmaaGreatG43
import Derived.Test.YtkgkahlhekecmaaGreatG46
import Derived.Test.YtkgkahlhekecmaaGreatG17
import Derived.Test.YtkgkahlhekecmaaGreatG30
import Derived.Test.YtkgkahlhekecmaaGreatG44
import Derived.Deep.RegionLaw
namespace Go.Proofs.YtkgkahlhekecmaaGreat
open Go.ChangeShapes Go.WideShapes Go.ChangeAt Go.RowKit
set_option maxRecDepth 20000 in
set_option maxHeartbeats 16000000 in
theorem gpS_end (g : Gat) (up uc us ul ud uo : Value) (t : ByteArray) (w : World) (h : RGt w up uc us ul ud uo g) (hP : BdGt 1048576 g) (h20 : ¬ 20000 < t.size) (hy : gtB g = true) (hz : nameB t = true) (hhf : hasP g t = false) (hle : g.ptns.length ≠ 20) (hmid : plcP g.ptns t = g.ptns.length) :
    Calls Tryz.prog 5 #[.agg #[.string g.name, .int .i64 g.day, up, uc, us, ul, ud, uo], .string t] w fun e w' => AnsGoS (gpR g t).2 w (gpR g t).1 e w' := by
  obtain ⟨a0, c0, a1, c1, a2, c2, a3, c3, a4, c4, a5, c5, rfl, rfl, rfl, rfl, rfl, rfl⟩ := h.val
  obtain ⟨W0, hW0⟩ : ∃ W0, (w.alloc (.cells #[.string g.name, .int .i64 g.day, (.slice a0 g.ptns.length c0), (.slice a1 g.crss.length c1), (.slice a2 g.book.stocks.length c2), (.slice a3 g.book.lines.length c3), (.slice a4 g.dffs.length c4), (.slice a5 g.outs.length c5)] 42)).alloc (.cells #[.string ⟨#[]⟩, .int .i64 0, .slice none 0 0, .slice none 0 0, .slice none 0 0, .slice none 0 0, .slice none 0 0, .slice none 0 0, .string ⟨#[]⟩, .int .i64 0, .int .i64 0, .int .i64 0, .int .i64 0, .int .i64 0] 44) = W0 := ⟨_, rfl⟩
  have hb0 : Below w.heap.size w W0 := by rw [← hW0]; exact ((Below.refl _ _).alloc (Nat.le_refl _) _).alloc (by simp) _
  obtain ⟨k0, k1⟩ := fl_twoH w (.cells #[.string g.name, .int .i64 g.day, (.slice a0 g.ptns.length c0), (.slice a1 g.crss.length c1), (.slice a2 g.book.stocks.length c2), (.slice a3 g.book.lines.length c3), (.slice a4 g.dffs.length c4), (.slice a5 g.outs.length c5)] 42) (.cells #[.string ⟨#[]⟩, .int .i64 0, .slice none 0 0, .slice none 0 0, .slice none 0 0, .slice none 0 0, .slice none 0 0, .slice none 0 0, .string ⟨#[]⟩, .int .i64 0, .int .i64 0, .int .i64 0, .int .i64 0, .int .i64 0] 44)
  rw [hW0] at k0 k1
  have hs0 : W0.heap.size = w.heap.size + 2 := by rw [← hW0]; simp
  have H0 : Hid (Below w.heap.size w W0 ∧ RGt W0 (.slice a0 g.ptns.length c0) (.slice a1 g.crss.length c1) (.slice a2 g.book.stocks.length c2) (.slice a3 g.book.lines.length c3) (.slice a4 g.dffs.length c4) (.slice a5 g.outs.length c5) g ∧ W0.heap[w.heap.size]? = some (.cells #[.string g.name, .int .i64 g.day, (.slice a0 g.ptns.length c0), (.slice a1 g.crss.length c1), (.slice a2 g.book.stocks.length c2), (.slice a3 g.book.lines.length c3), (.slice a4 g.dffs.length c4), (.slice a5 g.outs.length c5)] 42) ∧ W0.heap[w.heap.size + 1]? = some (.cells #[.string ⟨#[]⟩, .int .i64 0, .slice none 0 0, .slice none 0 0, .slice none 0 0, .slice none 0 0, .slice none 0 0, .slice none 0 0, .string ⟨#[]⟩, .int .i64 0, .int .i64 0, .int .i64 0, .int .i64 0, .int .i64 0] 44) ∧ w.heap.size + 2 ≤ W0.heap.size) := ⟨hb0, h.below hb0, k0, k1, by omega⟩
  have HPP : Hid (BdGt 1048576 g) := hP
  have hl0 := (bdp hP).1
  clear h hb0 k0 k1 hs0 hP
  have h20' : ¬ (t.size : Int) > 20000 := by omega
  go_enter Tryz.func5, Tryz.ntmps5
  go_upto_region 1 with fail
  try rw [hW0]
  clear hW0
  obtain ⟨x0, x1, x2, x3, x4, x5, x6, x7⟩ := bx8 H0.out.2.2.1
  have Q := fun W h => gateRight_spec g (.slice a0 g.ptns.length c0) (.slice a1 g.crss.length c1) (.slice a2 g.book.stocks.length c2) (.slice a3 g.book.lines.length c3) (.slice a4 g.dffs.length c4) (.slice a5 g.outs.length c5) W h
  rw [hy] at Q
  have QN := l01Name_any t
  rw [hz] at QN
  have HR : Hid (gpR g t = (adG g t, 0)) := gpR_ok h20 hy hz hhf hle
  have HRP : Hid (RightP g.ptns) := by
    have h := hy
    simp only [gtB, Bool.and_eq_true] at h
    exact ptsB_iff.1 h.2.2.1
  have HF : Hid (hasP g t = false ∧ RisP g.ptns) := ⟨hhf, HRP.out.ris⟩
  have HMID : Hid (plcP g.ptns t = g.ptns.length) := hmid
  have hln := HRP.out.len
  have hle' : ¬ (g.ptns.length : Int) ≥ 20 := by omega
  clear hy hz hmid
  go_wp2_with fail
  refine (Q _ H0.out.2.1).mono ?_
  rintro e wa ⟨rfl, hb⟩
  have H1 : Hid (Below w.heap.size w wa ∧ RGt wa (.slice a0 g.ptns.length c0) (.slice a1 g.crss.length c1) (.slice a2 g.book.stocks.length c2) (.slice a3 g.book.lines.length c3) (.slice a4 g.dffs.length c4) (.slice a5 g.outs.length c5) g ∧ wa.heap[w.heap.size]? = some (.cells #[.string g.name, .int .i64 g.day, (.slice a0 g.ptns.length c0), (.slice a1 g.crss.length c1), (.slice a2 g.book.stocks.length c2), (.slice a3 g.book.lines.length c3), (.slice a4 g.dffs.length c4), (.slice a5 g.outs.length c5)] 42) ∧ wa.heap[w.heap.size + 1]? = some (.cells #[.string ⟨#[]⟩, .int .i64 0, .slice none 0 0, .slice none 0 0, .slice none 0 0, .slice none 0 0, .slice none 0 0, .slice none 0 0, .string ⟨#[]⟩, .int .i64 0, .int .i64 0, .int .i64 0, .int .i64 0, .int .i64 0] 44) ∧ w.heap.size + 2 ≤ wa.heap.size) := ⟨H0.out.1.trans (hb.mono H0.out.1.size), H0.out.2.1.below hb, (hb.block _ (Array.getElem?_eq_some_iff.1 H0.out.2.2.1).1).trans H0.out.2.2.1, (hb.block _ (Array.getElem?_eq_some_iff.1 H0.out.2.2.2.1).1).trans H0.out.2.2.2.1, Nat.le_trans H0.out.2.2.2.2 hb.size⟩
  clear hb x0 x1 x2 x3 x4 x5 x6 x7 H0 Q
  go_wp2_with fail
  refine (QN _).mono ?_
  rintro e w1 ⟨rfl, rfl⟩
  obtain ⟨x0, x1, x2, x3, x4, x5, x6, x7⟩ := bx8 H1.out.2.2.1
  go_wp2_with fail
  refine (l13Find_any g _ _ _ _ _ _ t _ H1.out.2.1 HPP.out).mono ?_
  rintro e w2 ⟨r, rfl, hr, hb⟩
  rw [← hasP_iff HRP.out.ris] at hr
  have H2 : Hid (Below w.heap.size w w2 ∧ RGt w2 (.slice a0 g.ptns.length c0) (.slice a1 g.crss.length c1) (.slice a2 g.book.stocks.length c2) (.slice a3 g.book.lines.length c3) (.slice a4 g.dffs.length c4) (.slice a5 g.outs.length c5) g ∧ w2.heap[w.heap.size]? = some (.cells #[.string g.name, .int .i64 g.day, (.slice a0 g.ptns.length c0), (.slice a1 g.crss.length c1), (.slice a2 g.book.stocks.length c2), (.slice a3 g.book.lines.length c3), (.slice a4 g.dffs.length c4), (.slice a5 g.outs.length c5)] 42) ∧ w2.heap[w.heap.size + 1]? = some (.cells #[.string ⟨#[]⟩, .int .i64 0, .slice none 0 0, .slice none 0 0, .slice none 0 0, .slice none 0 0, .slice none 0 0, .slice none 0 0, .string ⟨#[]⟩, .int .i64 0, .int .i64 0, .int .i64 0, .int .i64 0, .int .i64 0] 44) ∧ w.heap.size + 2 ≤ w2.heap.size) := ⟨H1.out.1.trans (hb.mono H1.out.1.size), H1.out.2.1.below hb, (hb.block _ (Array.getElem?_eq_some_iff.1 H1.out.2.2.1).1).trans H1.out.2.2.1, (hb.block _ (Array.getElem?_eq_some_iff.1 H1.out.2.2.2.1).1).trans H1.out.2.2.2.1, Nat.le_trans H1.out.2.2.2.2 hb.size⟩
  have hr' : ¬ r ≥ 0 := fun e => by
    have := hr.1 e
    rw [hhf] at this
    cases this
  clear hb x0 x1 x2 x3 x4 x5 x6 x7 H1 hr hhf hle QN
  obtain ⟨x0, x1, x2, x3, x4, x5, x6, x7⟩ := bx8 H2.out.2.2.1
  go_wp2_with fail
  refine (l13Copy_any g _ _ _ _ _ _ _ H2.out.2.1 HPP.out).mono ?_
  rintro e w3 ⟨P0, P1, C0, C1, S0, S1, L0, L1, D0, D1, O0, O1, rfl, ⟨K, hK, hKb, hKs, hKr⟩, hb⟩
  have H3 : Hid (Below w.heap.size w w3 ∧ RGt w3 (.slice a0 g.ptns.length c0) (.slice a1 g.crss.length c1) (.slice a2 g.book.stocks.length c2) (.slice a3 g.book.lines.length c3) (.slice a4 g.dffs.length c4) (.slice a5 g.outs.length c5) g ∧ w3.heap[w.heap.size]? = some (.cells #[.string g.name, .int .i64 g.day, (.slice a0 g.ptns.length c0), (.slice a1 g.crss.length c1), (.slice a2 g.book.stocks.length c2), (.slice a3 g.book.lines.length c3), (.slice a4 g.dffs.length c4), (.slice a5 g.outs.length c5)] 42) ∧ w3.heap[w.heap.size + 1]? = some (.cells #[.string ⟨#[]⟩, .int .i64 0, .slice none 0 0, .slice none 0 0, .slice none 0 0, .slice none 0 0, .slice none 0 0, .slice none 0 0, .string ⟨#[]⟩, .int .i64 0, .int .i64 0, .int .i64 0, .int .i64 0, .int .i64 0] 44) ∧ w.heap.size + 2 ≤ w3.heap.size) := ⟨H2.out.1.trans (hb.mono H2.out.1.size), H2.out.2.1.below hb, (hb.block _ (Array.getElem?_eq_some_iff.1 H2.out.2.2.1).1).trans H2.out.2.2.1, (hb.block _ (Array.getElem?_eq_some_iff.1 H2.out.2.2.2.1).1).trans H2.out.2.2.2.1, Nat.le_trans H2.out.2.2.2.2 hb.size⟩
  have HK : Hid (K w3 ∧ (∀ W W', K W → Below W.heap.size W W' → K W') ∧ (∀ (W : World) (B i : Nat) (x : Value), K W → B < w2.heap.size + 3 → K (W.setCell ⟨B, i, none⟩ x)) ∧ ∀ W, K W → RGt W (.slice P0 g.ptns.length P1) (.slice C0 g.crss.length C1) (.slice S0 g.book.stocks.length S1) (.slice L0 g.book.lines.length L1) (.slice D0 g.dffs.length D1) (.slice O0 g.outs.length O1) g) := ⟨hK, hKb, hKs, hKr⟩
  have hz2 := H2.out.2.2.2.2
  clear hK hKb hKs hKr hb x0 x1 x2 x3 x4 x5 x6 x7 H2 hr'
  have hb3 : Below w3.heap.size w3 ((w3.alloc (.cells #[.string g.name, .int .i64 g.day, (.slice (some ⟨w3.heap.size + 1, 0, none⟩) 0 0), (.slice C0 g.crss.length C1), (.slice S0 g.book.stocks.length S1), (.slice L0 g.book.lines.length L1), (.slice D0 g.dffs.length D1), (.slice O0 g.outs.length O1)] 42)).alloc (.cells #[] 63)) := ((Below.refl _ _).alloc (Nat.le_refl _) _).alloc (by simp) _
  obtain ⟨k0, k1⟩ := fl_twoH w3 (.cells #[.string g.name, .int .i64 g.day, (.slice (some ⟨w3.heap.size + 1, 0, none⟩) 0 0), (.slice C0 g.crss.length C1), (.slice S0 g.book.stocks.length S1), (.slice L0 g.book.lines.length L1), (.slice D0 g.dffs.length D1), (.slice O0 g.outs.length O1)] 42) (.cells #[] 63)
  obtain ⟨V0, hV0⟩ : ∃ V0, (w3.alloc (.cells #[.string g.name, .int .i64 g.day, (.slice (some ⟨w3.heap.size + 1, 0, none⟩) 0 0), (.slice C0 g.crss.length C1), (.slice S0 g.book.stocks.length S1), (.slice L0 g.book.lines.length L1), (.slice D0 g.dffs.length D1), (.slice O0 g.outs.length O1)] 42)).alloc (.cells #[] 63) = V0 := ⟨_, rfl⟩
  rw [hV0] at hb3 k0 k1
  have hs3 : V0.heap.size = w3.heap.size + 2 := by rw [← hV0]; simp
  obtain ⟨n, hn⟩ : ∃ n, n = plcP g.ptns t := ⟨_, rfl⟩
  have HN : Hid (n = plcP g.ptns t ∧ n ≤ g.ptns.length) := ⟨hn, by rw [hn]; exact List.countP_le_length⟩
  have hnl := HN.out.2
  have hmid : n = g.ptns.length := by rw [hn]; exact HMID.out
  have HGT : Hid (∀ (k : Nat) (p : Ptn), g.ptns[k]? = some p → Op.bytesLess p.name.toList t.toList = decide (k < n) ∧ (p.name.toList == t.toList) = false) := fun k p hk => by rw [hn]; exact bef_iff HF.out.2 HF.out.1 hk
  have HV : Hid (C14 w3 V0 #[.string g.name, .int .i64 g.day, (.slice (some ⟨w3.heap.size + 1, 0, none⟩) 0 0), (.slice C0 g.crss.length C1), (.slice S0 g.book.stocks.length S1), (.slice L0 g.book.lines.length L1), (.slice D0 g.dffs.length D1), (.slice O0 g.outs.length O1)] ∧ OwnP (w3.heap.size + 1) V0 (.slice (some ⟨w3.heap.size + 1, 0, none⟩) 0 0) []) := ⟨⟨hb3, by omega, k0⟩, ⟨⟨rfl, .inr ⟨_, 0, #[], rfl, Nat.le_refl _, k1, Nat.le_refl _, Nat.zero_le _, rfl, rfl⟩⟩, fun q hq => by simp at hq, List.Pairwise.nil⟩⟩
  have HP1 : Hid (∀ p ∈ g.ptns, p.name.size ≤ 1048576 ∧ p.seen.length ≤ 1048576) := (bdp HPP.out).2
  have hwz : w.heap.size + 2 ≤ w3.heap.size := H3.out.2.2.2.2
  clear hn hb3 k0 k1 hs3
  go_upto_region 9 with fail
  try rw [hV0]
  clear hV0
  generalize Value.agg #[.string g.name, .int .i64 g.day, (.slice a0 g.ptns.length c0), (.slice a1 g.crss.length c1), (.slice a2 g.book.stocks.length c2), (.slice a3 g.book.lines.length c3), (.slice a4 g.dffs.length c4), (.slice a5 g.outs.length c5)] = X0
  generalize Value.agg #[.string g.name, .int .i64 g.day, (.slice P0 g.ptns.length P1), (.slice C0 g.crss.length C1), (.slice S0 g.book.stocks.length S1), (.slice L0 g.book.lines.length L1), (.slice D0 g.dffs.length D1), (.slice O0 g.outs.length O1)] = X1
  go_loopw [6, 7] (fun dn i wr => ∃ (k : Nat) (qs : List (Ptn × Value)) (Q0 : Option Addr) (Q1 : Nat), dn = .bool (decide (n < k)) ∧ i = .int .i64 (k : Int) ∧ k ≤ g.ptns.length ∧ qs.map Prod.fst = outL g.ptns n (newP t) k ∧ C14 w3 wr #[.string g.name, .int .i64 g.day, (.slice Q0 qs.length Q1), (.slice C0 g.crss.length C1), (.slice S0 g.book.stocks.length S1), (.slice L0 g.book.lines.length L1), (.slice D0 g.dffs.length D1), (.slice O0 g.outs.length O1)] ∧ OwnP (w3.heap.size + 1) wr ((.slice Q0 qs.length Q1)) qs) (fun _ i _ => g.ptns.length - (intOf i).toNat)
  case atStart => exact ⟨0, [], _, 0, by simp, rfl, by omega, by rw [outL_zero]; rfl, HV.out.1, HV.out.2⟩
  case round =>
    obtain ⟨k, qs, Q0, Q1, rfl, rfl, hk, hqm, hC, hO⟩ := hrel
    have hql : qs.length ≤ 21 := by
      have h1 := congrArg List.length hqm
      rw [List.length_map] at h1
      have h2 := outL_len g.ptns n (newP t) k
      omega
    have HI : Hid (qs.map Prod.fst = outL g.ptns n (newP t) k ∧ C14 w3 wr #[.string g.name, .int .i64 g.day, (.slice Q0 qs.length Q1), (.slice C0 g.crss.length C1), (.slice S0 g.book.stocks.length S1), (.slice L0 g.book.lines.length L1), (.slice D0 g.dffs.length D1), (.slice O0 g.outs.length O1)] ∧ OwnP (w3.heap.size + 1) wr ((.slice Q0 qs.length Q1)) qs) := ⟨hqm, hC, hO⟩
    obtain ⟨x0, x1, x2, x3, x4, x5, x6, x7⟩ := bx8 ((hC.bel.block _ (Array.getElem?_eq_some_iff.1 H3.out.2.2.1).1).trans H3.out.2.2.1)
    clear hqm
    by_cases hlt : k < g.ptns.length
    · have hlt' : (k : Int) < (g.ptns.length : Int) := by omega
      obtain ⟨b, o, cap', p, u, e, hs, hat, hRp⟩ := H3.out.2.1.pt.at hlt
      simp only [Value.slice.injEq, true_and] at e
      obtain ⟨rfl, rfl⟩ := e
      obtain ⟨n0, m0, rfl⟩ := hRp.ls.val
      obtain ⟨pz0, pz1⟩ := HP1.out p (List.mem_of_getElem? hs)
      obtain ⟨hgt, hge⟩ := HGT.out k p hs
      have HS : Hid (g.ptns[k]? = some p) := hs
      have HCG : Hid (∀ (W1 : World) (qs : List (Ptn × Value)) (Q0 : Option Addr) (Q1 : Nat), C14 w3 W1 #[.string g.name, .int .i64 g.day, (.slice Q0 qs.length Q1), (.slice C0 g.crss.length C1), (.slice S0 g.book.stocks.length S1), (.slice L0 g.book.lines.length L1), (.slice D0 g.dffs.length D1), (.slice O0 g.outs.length O1)] → OwnP (w3.heap.size + 1) W1 ((.slice Q0 qs.length Q1)) qs → ∀ W, Below W1.heap.size W1 W → (W.cell? ⟨b, o + k * 4, none⟩ = some (.string p.name) ∧ W.cell? ⟨b, o + k * 4 + 1, none⟩ = some (.int .i64 p.low) ∧ W.cell? ⟨b, o + k * 4 + 2, none⟩ = some (.int .i64 p.next) ∧ W.cell? ⟨b, o + k * 4 + 3, none⟩ = some (.slice n0 p.seen.length m0)) ∧ W.cell? ⟨w.heap.size, 2, none⟩ = some (.slice (some ⟨b, o, none⟩) g.ptns.length c0) ∧ W.cell? ⟨w3.heap.size, 2, none⟩ = some ((.slice Q0 qs.length Q1)) ∧ (∀ o, W.frozen? ⟨w3.heap.size, o, none⟩ = false) ∧ C14 w3 W #[.string g.name, .int .i64 g.day, (.slice Q0 qs.length Q1), (.slice C0 g.crss.length C1), (.slice S0 g.book.stocks.length S1), (.slice L0 g.book.lines.length L1), (.slice D0 g.dffs.length D1), (.slice O0 g.outs.length O1)] ∧ OwnP (w3.heap.size + 1) W ((.slice Q0 qs.length Q1)) qs ∧ RPt W (.slice n0 p.seen.length m0) p) := fun W1 qs Q0 Q1 hC hO W hW => by
        have hC' := hC.below (hW.mono hC.siz)
        obtain ⟨_, _, e2, _⟩ := bx8 ((hC'.bel.block _ (Array.getElem?_eq_some_iff.1 H3.out.2.2.1).1).trans H3.out.2.2.1)
        obtain ⟨_, _, e3, _⟩ := bx8 hC'.bx
        obtain ⟨r0, r1, r2, r3⟩ := hat.below hC'.bel
        exact ⟨⟨r0, r1, r2, r3⟩, e2, e3, fz8 hC'.bx, hC', hO.below hW, hRp.below hC'.bel⟩
      clear hs hat hRp
      rcases (Or.inl (by omega) : k < n ∨ False) with hkn | hff
      · have hd1 : decide (n < k) = false := decide_eq_false (by omega)
        rw [decide_eq_true (by omega)] at hgt
        rw [hd1]
        obtain ⟨⟨q0, q1, q2, q3⟩, q4, q5, q6, q7, q8, q9⟩ := HCG.out wr qs Q0 Q1 hC hO wr (Below.refl _ _)
        go_upto_region 18 with fail
        have HC : Hid _ := HCG.out wr qs Q0 Q1 hC hO
        have HO1 : Hid (OwnP (w3.heap.size + 1) wr (.slice Q0 qs.length Q1) qs ∧ w3.heap.size + 1 ≤ wr.heap.size) := ⟨hO, hC.siz⟩
        clear hC hO
        go_region_law (first | (go_simp; go_at_call 23; refine (l07Copy_g p _ _ (by with_reducible first | exact (HC.out _ (Below.refl _ _)).2.2.2.2.2.2 | exact (HC.out _ (Below.refl _ _).drew).2.2.2.2.2.2) pz1).mono ?_; rintro e w2 ⟨A5, C5, rfl, hown5, hb5⟩; have b5 : Below wr.heap.size wr w2 := (by with_reducible first | exact hb5 | exact undrewG hb5); have hnew5 : ∀ j, (Value.slice A5 p.seen.length C5).ownBlock = some j → wr.heap.size ≤ j := (fun j hj => (hown5.lt j hj).1); obtain ⟨⟨r0, r1, r2, r3⟩, r4, r5, r6, r7, r8, r9⟩ := HC.out w2 b5; have b6 : Below wr.heap.size wr (w2.alloc (.cells #[.string p.name, .int .i64 p.low, .int .i64 p.next, (.slice A5 p.seen.length C5)] 63)) := b5.alloc b5.size _; obtain ⟨⟨s0, s1, s2, s3⟩, s4, s5, s6, s7, s8, s9⟩ := HC.out _ b6; have hsn6 := own_belowP hown5 ((Below.refl _ w2).alloc (Nat.le_refl _) (.cells #[.string p.name, .int .i64 p.low, .int .i64 p.next, (.slice A5 p.seen.length C5)] 63)); have hat6 := bx4p (World.alloc_heap_new w2 (.cells #[.string p.name, .int .i64 p.low, .int .i64 p.next, (.slice A5 p.seen.length C5)] 63)); have hz6 := s7.siz; clear hb5 hown5; try dsimp only) | (refine step_appP (base := (w3.heap.size + 1)) (q := (p, .slice A5 p.seen.length C5)) (by rfl) _ _ (by rfl) (by rfl) (by rfl) s8 hat6 (ownsRow_down hsn6 HO1.out.2) (fun y hy g1 hg1 e => by have h1 := ((HO1.out.1.sn y hy).lt g1 hg1).2; have h2 := hnew5 g1 e; omega) rfl (by simp; omega) hz6 ?_; intro A6 C6 w7 hO7 hg7; have b7 := grow_own s8.row hg7 hz6; have hC7 := s7.below b7; obtain ⟨t0, t1, t2, t3, t4, t5, t6, t7⟩ := bx8 hC7.bx; have tf := fz8 hC7.bx; have K7 : Hid (C14 w3 (w7.setCell ⟨w3.heap.size, 2, none⟩ (.slice A6 (qs ++ [(p, Value.slice A5 p.seen.length C5)]).length C6)) #[.string g.name, .int .i64 g.day, (.slice A6 (qs ++ [(p, Value.slice A5 p.seen.length C5)]).length C6), (.slice C0 g.crss.length C1), (.slice S0 g.book.stocks.length S1), (.slice L0 g.book.lines.length L1), (.slice D0 g.dffs.length D1), (.slice O0 g.outs.length O1)] ∧ OwnP (w3.heap.size + 1) (w7.setCell ⟨w3.heap.size, 2, none⟩ (.slice A6 (qs ++ [(p, Value.slice A5 p.seen.length C5)]).length C6)) (.slice A6 (qs ++ [(p, Value.slice A5 p.seen.length C5)]).length C6) (qs ++ [(p, Value.slice A5 p.seen.length C5)])) := ⟨hC7.set 2 _ (st8_2 _ hC7.bx), hO7.setB (by omega) _ _⟩; clear hO7 hg7 b7 hC7; try dsimp only) | fail)
        all_goals
          have e3 : (qs ++ [(p, Value.slice A5 p.seen.length C5)]).map Prod.fst = outL g.ptns n (newP t) (k + 1) := by
            rw [outL_step HS.out (by omega), List.map_append, HI.out.1]
            rfl
          go_wp2
          go_roundw
          case rel => exact ⟨k + 1, qs ++ [(p, Value.slice A5 p.seen.length C5)], A6, C6, by rw [decide_eq_false (by omega)], by go_num, by omega, e3, by simpa using K7.out.1, by simpa using K7.out.2⟩
          case measure => simp [intOf]; omega
      · exact hff.elim
    · obtain rfl : k = g.ptns.length := by omega
      rcases (Or.inl trivial : True ∨ False) with _ | hff
      · obtain rfl : n = g.ptns.length := hmid
        have hd1 : decide (g.ptns.length < g.ptns.length) = false := decide_eq_false (by omega)
        rw [hd1]
        obtain ⟨_, _, q5, _⟩ := bx8 hC.bx
        have q6 := fz8 hC.bx
        go_upto_region 20 with fail
        have HC : Hid (∀ W, Below wr.heap.size wr W → W.cell? ⟨w3.heap.size, 2, none⟩ = some (.slice Q0 qs.length Q1) ∧ (∀ o, W.frozen? ⟨w3.heap.size, o, none⟩ = false) ∧ C14 w3 W #[.string g.name, .int .i64 g.day, (.slice Q0 qs.length Q1), (.slice C0 g.crss.length C1), (.slice S0 g.book.stocks.length S1), (.slice L0 g.book.lines.length L1), (.slice D0 g.dffs.length D1), (.slice O0 g.outs.length O1)] ∧ OwnP (w3.heap.size + 1) W (.slice Q0 qs.length Q1) qs) := fun W hW => by
          have hC' := hC.below (hW.mono hC.siz)
          obtain ⟨_, _, e3, _⟩ := bx8 hC'.bx
          exact ⟨e3, fz8 hC'.bx, hC', hO.below hW⟩
        have HO1 : Hid (OwnP (w3.heap.size + 1) wr (.slice Q0 qs.length Q1) qs ∧ w3.heap.size + 1 ≤ wr.heap.size) := ⟨hO, hC.siz⟩
        clear hC hO
        go_region_law (first | (go_simp; go_at_call 22; refine (ptNew_spec t _).mono ?_; rintro e w2 ⟨rfl, hb5⟩; have b5 : Below wr.heap.size wr w2 := (by with_reducible first | exact hb5 | exact undrewG hb5); obtain ⟨r5, r6, r7, r8⟩ := HC.out w2 b5; have b6 : Below wr.heap.size wr (w2.alloc (.cells #[.string (newP t).name, .int .i64 (newP t).low, .int .i64 (newP t).next, .slice none 0 0] 63)) := b5.alloc b5.size _; obtain ⟨s5, s6, s7, s8⟩ := HC.out _ b6; have hat6 := bx4p (World.alloc_heap_new w2 (.cells #[.string (newP t).name, .int .i64 (newP t).low, .int .i64 (newP t).next, .slice none 0 0] 63)); have hz6 := s7.siz; clear hb5; try dsimp only) | (refine step_appP (base := (w3.heap.size + 1)) (q := (newP t, Value.slice none 0 0)) (by rfl) _ _ (by rfl) (by rfl) (by rfl) s8 hat6 (newP_own t _ _) (fun y _ g1 _ e => by simp [Value.ownBlock] at e) rfl (by omega) hz6 ?_; intro A6 C6 w7 hO7 hg7; have b7 := grow_own s8.row hg7 hz6; have hC7 := s7.below b7; obtain ⟨t0, t1, t2, t3, t4, t5, t6, t7⟩ := bx8 hC7.bx; have tf := fz8 hC7.bx; have K7 : Hid (C14 w3 (w7.setCell ⟨w3.heap.size, 2, none⟩ (.slice A6 (qs ++ [(newP t, Value.slice none 0 0)]).length C6)) #[.string g.name, .int .i64 g.day, (.slice A6 (qs ++ [(newP t, Value.slice none 0 0)]).length C6), (.slice C0 g.crss.length C1), (.slice S0 g.book.stocks.length S1), (.slice L0 g.book.lines.length L1), (.slice D0 g.dffs.length D1), (.slice O0 g.outs.length O1)] ∧ OwnP (w3.heap.size + 1) (w7.setCell ⟨w3.heap.size, 2, none⟩ (.slice A6 (qs ++ [(newP t, Value.slice none 0 0)]).length C6)) (.slice A6 (qs ++ [(newP t, Value.slice none 0 0)]).length C6) (qs ++ [(newP t, Value.slice none 0 0)])) := ⟨hC7.set 2 _ (st8_2 _ hC7.bx), hO7.setB (by omega) _ _⟩; clear hO7 hg7 b7 hC7; try dsimp only) | fail)
        all_goals
          have hl8 : (qs ++ [(newP t, Value.slice none 0 0)]).length = qs.length + 1 := by simp
          obtain ⟨W8, hW8⟩ : ∃ W8, w7.setCell ⟨w3.heap.size, 2, none⟩ (.slice A6 (qs.length + 1) C6) = W8 := ⟨_, rfl⟩
          obtain ⟨qs8, hq8⟩ : ∃ q, q = qs ++ [(newP t, Value.slice none 0 0)] := ⟨_, rfl⟩
          have K8 : C14 w3 W8 #[.string g.name, .int .i64 g.day, (.slice A6 qs8.length C6), (.slice C0 g.crss.length C1), (.slice S0 g.book.stocks.length S1), (.slice L0 g.book.lines.length L1), (.slice D0 g.dffs.length D1), (.slice O0 g.outs.length O1)] ∧ OwnP (w3.heap.size + 1) W8 (.slice A6 qs8.length C6) qs8 := by
            have h8 := K7.out
            rw [hl8] at h8
            rw [← hW8, hq8, hl8]
            exact h8
          obtain ⟨hC8, hO8⟩ := K8
          have HQ : Hid (qs8.map Prod.fst = insL g.ptns g.ptns.length (newP t)) := by
            rw [hq8, List.map_append, HI.out.1]
            exact outL_last
          have hl9 : qs8.length = qs.length + 1 := by rw [hq8, hl8]
          rw [← hl9] at hW8
          try rw [← hl9]
          try rw [hW8]
          have hl7 : qs8.length ≤ 22 := by omega
          clear hl9 hW8 hq8 hl8 K7 HC HO1 t0 t1 t2 t3 t4 t5 t6 t7 tf r5 r6 r7 r8 s5 s6 s7 s8 hat6 hz6 b5 b6 q5 q6
          have HE : Hid ((Below w.heap.size w W8 ∧ K W8 ∧ OwnP (w3.heap.size + 1) W8 (.slice A6 qs8.length C6) qs8) ∧ W8.heap[w.heap.size + 1]? = some (.cells #[.string ⟨#[]⟩, .int .i64 0, .slice none 0 0, .slice none 0 0, .slice none 0 0, .slice none 0 0, .slice none 0 0, .slice none 0 0, .string ⟨#[]⟩, .int .i64 0, .int .i64 0, .int .i64 0, .int .i64 0, .int .i64 0] 44)) := ⟨⟨H3.out.1.trans (hC8.bel.mono H3.out.1.size), HK.out.2.1 _ _ HK.out.1 hC8.bel, hO8⟩, (hC8.bel.block _ (Array.getElem?_eq_some_iff.1 H3.out.2.2.2.1).1).trans H3.out.2.2.2.1⟩
          obtain ⟨y0, y1, y2, y3, y4, y5, y6, y7⟩ := bx8 hC8.bx
          clear hC8 hO8
          obtain ⟨r0, r1, r2, r3, r4, r5, r6, r7, r8, r9, r10, r11, r12, r13⟩ := bx14 HE.out.2
          have fr := fz8 HE.out.2
          go_wp2
          obtain ⟨f0, f1, f2, f3, f4, f5, f6, f7, f8, f9, f10, f11, f12, f13⟩ := bx14 (st14 (y0 := (.string g.name)) (y1 := (.int .i64 g.day)) (y2 := (.slice A6 qs8.length C6)) (y3 := (.slice C0 g.crss.length C1)) (y4 := (.slice S0 g.book.stocks.length S1)) (y5 := (.slice L0 g.book.lines.length L1)) (y6 := (.slice D0 g.dffs.length D1)) (y7 := (.slice O0 g.outs.length O1)) (y8 := (.string ⟨#[]⟩)) (y9 := (.int .i64 0)) (y10 := (.int .i64 0)) (y11 := (.int .i64 0)) (y12 := (.int .i64 0)) (y13 := (.int .i64 0)) HE.out.2)
          refine bodyPost_ret (v := .agg #[(.string g.name), (.int .i64 g.day), (.slice A6 qs8.length C6), (.slice C0 g.crss.length C1), (.slice S0 g.book.stocks.length S1), (.slice L0 g.book.lines.length L1), (.slice D0 g.dffs.length D1), (.slice O0 g.outs.length O1), (.string ⟨#[]⟩), (.int .i64 0), (.int .i64 0), (.int .i64 0), (.int .i64 0), (.int .i64 0)]) (by simp [results, Tryz.results5, go_sem, f0, f1, f2, f3, f4, f5, f6, f7, f8, f9, f10, f11, f12, f13]) rfl ?_
          have stp : ∀ (W : World) (j : Nat) (x : Value), (Below w.heap.size w W ∧ K W ∧ OwnP (w3.heap.size + 1) W (.slice A6 qs8.length C6) qs8) → (Below w.heap.size w (W.setCell ⟨w.heap.size + 1, j, none⟩ x) ∧ K (W.setCell ⟨w.heap.size + 1, j, none⟩ x) ∧ OwnP (w3.heap.size + 1) (W.setCell ⟨w.heap.size + 1, j, none⟩ x) (.slice A6 qs8.length C6) qs8) := fun W j x ⟨m1, m2, m3⟩ => ⟨m1.setCell (Nat.le_succ _) x, HK.out.2.2.1 _ _ _ _ m2 (by omega), m3.setB (by omega) _ _⟩
          have hE := stp _ 13 (.int .i64 0) (stp _ 12 (.int .i64 0) (stp _ 11 (.int .i64 0) (stp _ 10 (.int .i64 0) (stp _ 9 (.int .i64 0) (stp _ 8 (.string ⟨#[]⟩) (stp _ 7 (.slice O0 g.outs.length O1) (stp _ 6 (.slice D0 g.dffs.length D1) (stp _ 5 (.slice L0 g.book.lines.length L1) (stp _ 4 (.slice S0 g.book.stocks.length S1) (stp _ 3 (.slice C0 g.crss.length C1) (stp _ 2 (.slice A6 qs8.length C6) (stp _ 1 (.int .i64 g.day) (stp _ 0 (.string g.name) (HE.out.1))))))))))))))
          rw [HR.out]
          have hRR := HK.out.2.2.2 _ hE.2.1
          have hrow := hE.2.2.rows (by omega) (fun q hq => gpz HQ.out (bdp HPP.out).2 (by omega) q hq)
          rw [HQ.out] at hrow
          have hnn2 := HN.out.1
          rw [hnn2] at hrow
          exact ⟨_, _, _, _, _, _, rfl, ⟨hRR.nm, hrow, hRR.cs, hRR.bk, hRR.df, hRR.ou⟩, hE.1⟩
      · exact hff.elim
end Go.Proofs.YtkgkahlhekecmaaGreat
