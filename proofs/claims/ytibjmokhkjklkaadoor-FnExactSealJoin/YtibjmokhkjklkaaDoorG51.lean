/- Texts of ours put together: SlS3. -/
import Derived.Test.YtibjmokhkjklkaaDoorG32
import Derived.Test.YtibjmokhkjklkaaDoorG49
import Derived.Test.YtibjmokhkjklkaaDoorG10
import Derived.Test.YtibjmokhkjklkaaDoorG15
import Derived.Deep.Cut
import Derived.Deep.CutRange
namespace Go.Proofs.YtibjmokhkjklkaaDoor
open Go.ChangeShapes Go.WideShapes Go.ChangeAt Go.RowKit
theorem joinT_lenS (rs : List EvR) (c : List Int) (e : EvR) : (joinT rs c e).length ≤ 401 := by
  unfold joinT
  split
  · simp
  · split
    · rw [List.length_append]; simp; omega
    · omega
set_option maxRecDepth 100000 in
set_option maxHeartbeats 8000000 in
theorem sealJoin_spec (v : Value) (rs : List EvR) (c : List Int) (a : Option Addr) (ca : Nat) (e : EvR) (w : World) (h : RowEv w v rs) (h' : RowN w (.slice a c.length ca) c) :
    Calls Tryd.prog 19 #[v, .slice a c.length ca, .agg #[.int .i64 e.kind, .string e.a, .string e.b, .string e.c]] w fun x w' => ∃ u, x = .returned u ∧ w'.ownsRow w.heap.size 2 1 u (joinT rs c e).length ((joinT rs c e).map (Value.int .i64)) ∧ Below w.heap.size w w' := by
  obtain ⟨A, Cp, rfl⟩ := h.val
  have hlen := h.len
  have hlc := h'.len
  obtain ⟨W0, hW0⟩ : ∃ W0, w.alloc (.cells #[.int .i64 e.kind, .string e.a, .string e.b, .string e.c] 40) = W0 := ⟨_, rfl⟩
  have hb0 : Below w.heap.size w W0 := by rw [← hW0]; exact (Below.refl _ _).alloc (Nat.le_refl _) _
  have k0 : W0.heap[w.heap.size]? = some (.cells #[.int .i64 e.kind, .string e.a, .string e.b, .string e.c] 40) := by rw [← hW0]; exact World.alloc_heap_new _ _
  have H0 : Hid (RowEv w (.slice A rs.length Cp) rs ∧ RowN w (.slice a c.length ca) c ∧ Below w.heap.size w W0) := ⟨h, h', hb0⟩
  have HK : Hid (∀ W, Below W0.heap.size W0 W → W.heap[w.heap.size]? = some (.cells #[.int .i64 e.kind, .string e.a, .string e.b, .string e.c] 40)) := fun W hW => (hW.block _ (Array.getElem?_eq_some_iff.1 k0).1).trans k0
  obtain ⟨x0, x1, x2, x3⟩ := bx4e k0
  clear h h' hb0 k0
  go_enter Tryd.func19, Tryd.ntmps19
  go_upto_region 1 with fail
  try rw [hW0]
  clear hW0
  have hz0 := H0.out.2.2.size
  have hnil := own0N W0 (B := w.heap.size) hz0
  have hal : Below w.heap.size w (W0.alloc (.cells #[] 2)) := H0.out.2.2.alloc hz0 _
  have HL : Hid (W0.ownsRow w.heap.size 2 1 (.slice none 0 0) 0 [] ∧ (W0.alloc (.cells #[] 2)).ownsRow w.heap.size 2 1 (.slice (some ⟨W0.heap.size, 0, none⟩) 0 0) 0 [] ∧ Below w.heap.size w (W0.alloc (.cells #[] 2))) := ⟨World.ownsRow_nil _ _ _ _, hnil, hal⟩
  clear hnil hal
  by_cases hl1 : 400 < rs.length
  · have hl1' : (rs.length : Int) > 400 := by omega
    have HN : Hid (joinT rs c e = []) := joinT_none (.inl hl1)
    go_wp2
    go_ret
    exact ⟨_, rfl, by rw [HN.out]; exact HL.out.2.1, HL.out.2.2⟩
  have hl1' : ¬ (rs.length : Int) > 400 := by omega
  by_cases hl2 : 400 < c.length
  · have hl2' : (c.length : Int) > 400 := by omega
    have HN : Hid (joinT rs c e = []) := joinT_none (.inr hl2)
    go_wp2
    go_ret
    exact ⟨_, rfl, by rw [HN.out]; exact HL.out.2.1, HL.out.2.2⟩
  have hl2' : ¬ (c.length : Int) > 400 := by omega
  have ho0 := HL.out.2.1
  have hr0 := H0.out.2.1.below HL.out.2.2
  have hz2 : w.heap.size ≤ (W0.alloc (.cells #[] 2)).heap.size := HL.out.2.2.size
  go_wp2_with (first | (at_builtin; refine wpList_clnN (by rfl) _ _ rfl rfl rfl ho0 hr0 (by omega) hz2 ?_; rintro A1 C1 w1 hown1 hb1))
  have H1 : Hid (w1.ownsRow w.heap.size 2 1 (.slice A1 c.length C1) c.length (c.map (Value.int .i64)) ∧ Below W0.heap.size W0 w1 ∧ Below w.heap.size w w1) := ⟨hown1, grown_newN hb1, H0.out.2.2.trans ((grown_newN hb1).mono hz0)⟩
  clear hown1 hb1 ho0 hr0 hz2 x0 x1 x2 x3
  have Q := l19Right_any (.slice A rs.length Cp) rs w1 (H0.out.1.below H1.out.2.2)
  obtain ⟨y, hy⟩ : ∃ y, y = okE rs := ⟨_, rfl⟩
  have HY : Hid (y = okE rs) := hy
  rw [← hy] at Q
  clear hy
  go_wp2_with fail
  refine Q.mono ?_
  rintro x w2 ⟨rfl, hb2⟩
  have H2 : Hid (w2.ownsRow w.heap.size 2 1 (.slice A1 c.length C1) c.length (c.map (Value.int .i64)) ∧ Below W0.heap.size W0 w2 ∧ Below w.heap.size w w2) := ⟨own1_below H1.out.1 hb2, H1.out.2.1.trans (hb2.mono H1.out.2.1.size), H1.out.2.2.trans (hb2.mono H1.out.2.2.size)⟩
  clear hb2 Q
  cases y with
  | false =>
    have HN : Hid (joinT rs c e = c) := joinT_same hl1 hl2 (fun g => by have := g.2.2; rw [faultT_no HY.out.symm] at this; cases this)
    go_wp2
    go_ret
    exact ⟨_, rfl, by rw [HN.out]; exact H2.out.1, H2.out.2.2⟩
  | true =>
  have QS := sealFault_spec (.slice A rs.length Cp) rs c a ca w2 (H0.out.1.below H2.out.2.2) (H0.out.2.1.below H2.out.2.2)
  obtain ⟨f, hf⟩ : ∃ f, f = faultT rs c := ⟨_, rfl⟩
  have HF : Hid (f = faultT rs c) := hf
  rw [← hf] at QS
  clear hf
  go_wp2_with fail
  refine QS.mono ?_
  rintro x w3 ⟨rfl, hb3⟩
  have H3 : Hid (w3.ownsRow w.heap.size 2 1 (.slice A1 c.length C1) c.length (c.map (Value.int .i64)) ∧ Below W0.heap.size W0 w3 ∧ Below w.heap.size w w3) := ⟨own1_below H2.out.1 hb3, H2.out.2.1.trans (hb3.mono H2.out.2.1.size), H2.out.2.2.trans (hb3.mono H2.out.2.2.size)⟩
  clear hb3 QS
  by_cases hf : f = -1
  case neg =>
    have HN : Hid (joinT rs c e = c) := joinT_same hl1 hl2 (fun g => hf (HF.out.trans g.2.2))
    have hf' : (f != -1) = true := by simpa using hf
    go_wp2
    go_ret
    exact ⟨_, rfl, by rw [HN.out]; exact H3.out.1, H3.out.2.2⟩
  have hf' : (f != -1) = false := by simpa using hf
  have HFF : Hid (faultT rs c = -1) := by show _ = _; rw [← HF.out]; exact hf
  clear hf
  obtain ⟨x0, x1, x2, x3⟩ := bx4e (HK.out _ H3.out.2.1)
  have QE := fun W => eventRight_spec e W
  obtain ⟨y, hy⟩ : ∃ y, y = evB e := ⟨_, rfl⟩
  have HE : Hid (y = evB e) := hy
  rw [← hy] at QE
  clear hy HF
  go_wp2_with fail
  refine (QE _).mono ?_
  rintro x w4 ⟨rfl, hb4⟩
  have H4 : Hid (w4.ownsRow w.heap.size 2 1 (.slice A1 c.length C1) c.length (c.map (Value.int .i64)) ∧ Below W0.heap.size W0 w4 ∧ Below w.heap.size w w4) := ⟨own1_below H3.out.1 hb4, H3.out.2.1.trans (hb4.mono H3.out.2.1.size), H3.out.2.2.trans (hb4.mono H3.out.2.2.size)⟩
  clear hb4 QE x0 x1 x2 x3
  cases y with
  | false =>
    have HN : Hid (joinT rs c e = c) := joinT_same hl1 hl2 (fun g => by have := HE.out; rw [g.2.1] at this; cases this)
    go_wp2
    go_ret
    exact ⟨_, rfl, by rw [HN.out]; exact H4.out.1, H4.out.2.2⟩
  | true =>
  by_cases hl3 : rs.length < 60
  case neg =>
    have hl3' : (rs.length : Int) ≥ 60 := by omega
    have HN : Hid (joinT rs c e = c) := joinT_same hl1 hl2 (by omega)
    go_wp2
    go_ret
    exact ⟨_, rfl, by rw [HN.out]; exact H4.out.1, H4.out.2.2⟩
  have hl3' : ¬ (rs.length : Int) ≥ 60 := by omega
  have hok := evB_iff.1 HE.out.symm
  obtain ⟨z, hz⟩ : ∃ z, z = c.getLastD 1 := ⟨_, rfl⟩
  obtain ⟨t, ht⟩ : ∃ t, t = evX e := ⟨_, rfl⟩
  obtain ⟨y, hy⟩ : ∃ y, y = sealT z t := ⟨_, rfl⟩
  have hsz := evX_size HE.out.symm
  have HN : Hid (joinT rs c e = c ++ [y]) := by rw [hy, hz, ht]; exact joinT_yes hl3 hl2 HE.out.symm HFF.out
  have QT := fun W => l16Text_any e hok W
  have QZ := fun W => sealSum_spec z t W (by rw [ht]; omega)
  rw [← ht] at QT
  rw [← hy] at QZ
  have HZ : Hid (z = c.getLastD 1) := hz
  clear hok ht hy hsz HE HY HFF hz
  obtain ⟨x0, x1, x2, x3⟩ := bx4e (HK.out _ H4.out.2.1)
  rcases List.eq_nil_or_concat c with e0 | ⟨l, q, e0⟩
  · have e1 : z = 1 := by rw [HZ.out, e0]; rfl
    have h0 : ¬ (c.length : Int) > 0 := by rw [e0]; simp
    subst e1
    clear e0 HZ
    go_wp2_with fail
    refine (QT _).mono ?_
    rintro x w5 ⟨rfl, hb5⟩
    have H5 : Hid (w5.ownsRow w.heap.size 2 1 (.slice A1 c.length C1) c.length (c.map (Value.int .i64)) ∧ Below w.heap.size w w5) := ⟨own1_below H4.out.1 hb5, H4.out.2.2.trans (hb5.mono H4.out.2.2.size)⟩
    clear hb5 QT x0 x1 x2 x3
    go_wp2_with fail
    refine (QZ _).mono ?_
    rintro x w6 ⟨rfl, hb6⟩
    have H6 : Hid (w6.ownsRow w.heap.size 2 1 (.slice A1 c.length C1) c.length (c.map (Value.int .i64)) ∧ Below w.heap.size w w6) := ⟨own1_below H5.out.1 hb6, H5.out.2.trans (hb6.mono H5.out.2.size)⟩
    clear hb6 QZ
    have hrow := H6.out.1.alloc (.cells #[.int .i64 y] 2)
    have hcell := bx1Z (World.alloc_heap_new w6 (.cells #[.int .i64 y] 2))
    have hsz := H6.out.2.size
    go_wp2_with (first | (at_builtin; refine wpList_appN rfl _ _ rfl rfl rfl hrow hcell (by omega) (by simp; omega) ?_; rintro v7 w7 hown7 hgrow7 ⟨A7, C7, rfl⟩))
    have H7 : Hid (w7.ownsRow w.heap.size 2 1 (.slice A7 (c.length + 1) C7) (c ++ [y]).length ((c ++ [y]).map (Value.int .i64)) ∧ Below w.heap.size w w7) := ⟨hown7, appN_below H6.out.2 (Nat.le_refl _) H6.out.1 hgrow7⟩
    clear hown7 hgrow7 hrow hcell
    go_wp2
    go_ret
    exact ⟨_, rfl, by rw [HN.out]; exact H7.out.1, H7.out.2⟩
  · rw [List.concat_eq_append] at e0
    have hcl : c.length = l.length + 1 := by rw [e0]; simp
    obtain ⟨b, o, cap', z', e2, hs, hcell0⟩ := (H0.out.2.1.below H4.out.2.2).at (k := l.length) (by omega)
    have hz : z' = q := by rw [e0] at hs; simpa using hs.symm
    have hzq : z = q := by rw [HZ.out, e0]; simp
    simp only [Value.slice.injEq, true_and] at e2
    obtain ⟨rfl, rfl⟩ := e2
    rw [hz, ← hzq] at hcell0
    obtain ⟨m, hm⟩ : ∃ m, m = l.length := ⟨_, rfl⟩
    rw [← hm] at hcell0 hcl
    have h0 : (c.length : Int) > 0 := by omega
    have h2 : (c.length : Int) - 1 = (m : Int) := by omega
    have h3 : (m : Int) < (c.length : Int) := by omega
    have h4 : m < c.length := by omega
    have H55 : Hid (c.length = m + 1) := hcl
    clear hs e0 hz hm hzq hcl HZ
    go_wp2_with fail
    refine (QT _).mono ?_
    rintro x w5 ⟨rfl, hb5⟩
    have H5 : Hid (w5.ownsRow w.heap.size 2 1 (.slice A1 c.length C1) c.length (c.map (Value.int .i64)) ∧ Below w.heap.size w w5) := ⟨own1_below H4.out.1 hb5, H4.out.2.2.trans (hb5.mono H4.out.2.2.size)⟩
    clear hb5 QT x0 x1 x2 x3
    go_wp2_with fail
    refine (QZ _).mono ?_
    rintro x w6 ⟨rfl, hb6⟩
    have H6 : Hid (w6.ownsRow w.heap.size 2 1 (.slice A1 c.length C1) c.length (c.map (Value.int .i64)) ∧ Below w.heap.size w w6) := ⟨own1_below H5.out.1 hb6, H5.out.2.trans (hb6.mono H5.out.2.size)⟩
    clear hb6 QZ
    have hrow := H6.out.1.alloc (.cells #[.int .i64 y] 2)
    have hcell := bx1Z (World.alloc_heap_new w6 (.cells #[.int .i64 y] 2))
    have hsz := H6.out.2.size
    go_wp2_with (first | (at_builtin; refine wpList_appN rfl _ _ rfl rfl rfl hrow hcell (by omega) (by simp; omega) ?_; rintro v7 w7 hown7 hgrow7 ⟨A7, C7, rfl⟩))
    have H7 : Hid (w7.ownsRow w.heap.size 2 1 (.slice A7 (c.length + 1) C7) (c ++ [y]).length ((c ++ [y]).map (Value.int .i64)) ∧ Below w.heap.size w w7) := ⟨hown7, appN_below H6.out.2 (Nat.le_refl _) H6.out.1 hgrow7⟩
    clear hown7 hgrow7 hrow hcell
    go_wp2
    go_ret
    exact ⟨_, rfl, by rw [HN.out]; exact H7.out.1, H7.out.2⟩
end Go.Proofs.YtibjmokhkjklkaaDoor
