/- Texts of ours put together: StxI. -/
import Derived.Test.YtjmkdpnoihpfoaaGreatDoorG40
import Derived.Test.YtjmkdpnoihpfoaaGreatDoorG28
namespace Go.Proofs.YtjmkdpnoihpfoaaGreatDoor
open Go.ChangeShapes Go.WideShapes Go.ChangeAt Go.RowKit
set_option maxHeartbeats 8000000 in
theorem stockText_impl (p : Bk) (us ul : Value) (w : World) (h : RBk w us ul p) (hT : TabOk w) : Calls Tryz.prog 7 #[.agg #[us, ul]] w fun e w' => e = .returned (.string (stkT p)) ∧ Below w.heap.size w w' := by
  have HT : Hid (TabOk w) := hT
  clear hT
  obtain ⟨a, c, a', c', rfl, rfl⟩ := h.val
  obtain ⟨W0, hW0⟩ : ∃ W0, w.alloc (.cells #[.slice a p.stocks.length c, .slice a' p.lines.length c'] 31) = W0 := ⟨_, rfl⟩
  have hb0 : Below w.heap.size w W0 := by rw [← hW0]; exact (Below.refl _ _).alloc (Nat.le_refl _) _
  have hbx : W0.heap[w.heap.size]? = some (.cells #[.slice a p.stocks.length c, .slice a' p.lines.length c'] 31) := by rw [← hW0]; exact World.alloc_heap_new _ _
  have H0 : Hid (Below w.heap.size w W0 ∧ RBk W0 (.slice a p.stocks.length c) (.slice a' p.lines.length c') p ∧ W0.heap[w.heap.size]? = some (.cells #[.slice a p.stocks.length c, .slice a' p.lines.length c'] 31)) := ⟨hb0, h.below hb0, hbx⟩
  obtain ⟨c0, c1⟩ := box2 hbx
  have hlt0 := (Array.getElem?_eq_some_iff.1 hbx).1
  clear h hb0 hbx
  go_enter Tryz.func7, Tryz.ntmps7
  go_upto_region 1 with fail
  try rw [hW0]
  clear hW0
  obtain ⟨x, hx⟩ : ∃ x, x = bkB p := ⟨_, rfl⟩
  have HX : Hid (x = bkB p) := hx
  have Q1 := fun W h => bookRight_impl p (.slice a p.stocks.length c) (.slice a' p.lines.length c') W h
  rw [← hx] at Q1
  clear hx
  go_wp2_with fail
  refine (Q1 _ H0.out.2.1).mono ?_
  rintro e w1 ⟨rfl, hb1⟩
  have H1 : Hid (Below w.heap.size w w1 ∧ RBk w1 (.slice a p.stocks.length c) (.slice a' p.lines.length c') p ∧ w1.heap[w.heap.size]? = some (.cells #[.slice a p.stocks.length c, .slice a' p.lines.length c'] 31)) := ⟨H0.out.1.trans (hb1.mono H0.out.1.size), H0.out.2.1.below hb1, (hb1.block _ hlt0).trans H0.out.2.2⟩
  have hlt1 := (Array.getElem?_eq_some_iff.1 H1.out.2.2).1
  obtain ⟨d0, d1⟩ := box2 H1.out.2.2
  clear hb1 c0 c1 Q1
  cases x with
  | false =>
    have HN : Hid (stkT p = ⟨#[]⟩) := stkT_no HX.out.symm
    go_wp2
    go_ret
    exact ⟨by rw [HN.out]; rfl, H1.out.1⟩
  | true =>
    have HK : Hid (bkB p = true) := HX.out.symm
    obtain ⟨W2, hW2⟩ : ∃ W2, w1.alloc (.cells #[.slice none 0 0, .slice none 0 0] 47) = W2 := ⟨_, rfl⟩
    obtain ⟨R, hRR⟩ : ∃ R, R = w1.heap.size := ⟨_, rfl⟩
    have ha : Below w1.heap.size w1 W2 := by rw [← hW2]; exact (Below.refl _ _).alloc (Nat.le_refl _) _
    have hrep : Rep w1.heap.size R W2 (.slice none 0 0) (.slice none 0 0) [] := by rw [← hW2, hRR]; exact Rep.new w1
    obtain ⟨f0, f1⟩ := box2 ((ha.block _ hlt1).trans H1.out.2.2)
    have HA : Hid (Below w1.heap.size w1 W2 ∧ Rep w1.heap.size R W2 (.slice none 0 0) (.slice none 0 0) [] ∧ TabOk w1) := ⟨ha, hrep, HT.out.below H1.out.1⟩
    have HW : Hid (w1.alloc (.cells #[.slice none 0 0, .slice none 0 0] 47) = W2 ∧ R = w1.heap.size) := ⟨hW2, hRR⟩
    clear hW2 hRR ha hrep d0 d1
    go_upto_region 4 with fail
    rw [HW.out.1, ← HW.out.2]
    clear HW
    go_wp2_with fail
    refine (stock_any R [] p _ _ w1 _ _ _ H1.out.2.1 HK.out HA.out.1 HA.out.2.1 HA.out.2.2 (by simp) (by simp)).mono ?_
    rintro e w2 ⟨rfl, ⟨wv, ev, hr2⟩, hb2⟩
    rw [List.nil_append] at hr2
    have H2 : Hid (Rep w1.heap.size R w2 wv ev ((itemsT p).map (stW p)) ∧ Below w1.heap.size w1 w2) := ⟨hr2, hb2⟩
    have hil := itemsT_len (b := p)
    clear hr2 hb2
    go_wp2_with fail
    refine (text_any _ _ wv ev ((itemsT p).map (stW p)) _ H2.out.1 (fun r hr => by obtain ⟨l, _, rfl⟩ := List.mem_map.1 hr; rw [stW_len]; omega) (by rw [stW_flat]; omega) (by rw [List.length_map]; omega) (Nat.le_trans (st_len (items_name HK.out)) (by omega))).mono ?_
    rintro e w3 ⟨rfl, hb3⟩
    have H3 : Hid (Below w.heap.size w w3) := H1.out.1.trans ((H2.out.2.trans (hb3.mono H2.out.2.size)).mono H1.out.1.size)
    clear hb3
    go_wp2
    go_ret
    exact ⟨rfl, H3.out⟩
end Go.Proofs.YtjmkdpnoihpfoaaGreatDoor
