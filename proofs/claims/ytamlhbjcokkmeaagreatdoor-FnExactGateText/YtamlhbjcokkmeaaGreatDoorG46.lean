/- Texts of ours put together: SRowT, BiS. -/
import Derived.Test.YtamlhbjcokkmeaaGreatDoorG00
import Derived.Test.YtamlhbjcokkmeaaGreatDoorRows
import Derived.WalkKit
import Derived.ProofKit
import Derived.OpenShut
import Derived.ShutString
import Derived.ChangeOld
import Derived.Below
import Derived.WalkLawsBesides
import Derived.WalkSpells
import Derived.Deep.Light
import Derived.Handy
import Derived.Deep.QuietTactic
import Derived.BigQuiet
import Derived.Deep.RegionHeld3
import Derived.Laws.BytesArg
import Derived.Test.YtamlhbjcokkmeaaGreatDoorG45
import Derived.Test.YtamlhbjcokkmeaaGreatDoorG44
import Derived.WalkSmall
import Derived.Deep.Cut
import Derived.Deep.CutRange
namespace Go.Proofs.YtamlhbjcokkmeaaGreatDoor
open Go.ChangeShapes Go.WideShapes Go.ChangeAt Go.RowKit
/-- A list of strings that lies in block g from n₀ on, or is empty. -/
structure SRow (W : World) (n₀ g : Nat) (ad : Option Addr) (T : List ByteArray) : Prop where
  at_ : 0 < T.length → ad = some ⟨g, 0, none⟩
  base : 0 < T.length → n₀ ≤ g
  cell : ∀ i, i < T.length → W.cell? ⟨g, i, none⟩ = some (.string (T[i]?.getD ⟨#[]⟩))
  fz : 0 < T.length → ∀ o, W.frozen? ⟨g, o, none⟩ = false
theorem SRow.keep {W W' : World} {n₀ g B : Nat} {ad : Option Addr} {T : List ByteArray} (h : SRow W n₀ g ad T) (hk : Keep B W W') (hB : 0 < T.length → g ≠ B) : SRow W' n₀ g ad T :=
  ⟨h.at_, h.base, fun i hi => hk.cell (h.cell i hi) (hB (by omega)), fun g0 o => (hk.frozen (cell_lt (h.cell 0 g0)) o (hB g0)).trans (h.fz g0 o)⟩
theorem SRow.below {W W' : World} {n₀ g : Nat} {ad : Option Addr} {T : List ByteArray} (h : SRow W n₀ g ad T) (hb : Below W.heap.size W W') : SRow W' n₀ g ad T :=
  h.keep (Keep.of_below (B := g + 1) hb) (fun _ => by omega)
theorem SRow.of_owns {W : World} {n₀ : Nat} {v : Value} {T : List ByteArray} (h : W.ownsRow n₀ 9 1 v T.length (T.map Value.string)) : ∃ g ad cap, v = .slice ad T.length cap ∧ SRow W n₀ g ad T := by
  rcases h.2 with ⟨rfl, e⟩ | ⟨g, cap, cur, rfl, hb, hgb, _, _, _, htk⟩
  · exact ⟨0, none, 0, by rw [e], ⟨fun h => by omega, fun h => by omega, fun i hi => by omega, fun h => by omega⟩⟩
  · refine ⟨g, _, cap, rfl, ⟨fun _ => rfl, fun _ => hb, fun i hi => ?_, fun _ o => by simp [World.frozen?, hgb]⟩⟩
    have h1 : (cur.toList.take (T.length * 1))[i]? = (T.map Value.string)[i]? := by rw [htk]
    rw [List.getElem?_take_of_lt (by omega)] at h1
    simp [World.cell?, hgb, List.getElem?_eq_getElem hi] at h1 ⊢
    rw [h1]
end Go.Proofs.YtamlhbjcokkmeaaGreatDoor
namespace Go.Proofs.YtamlhbjcokkmeaaGreatDoor
open Go.ChangeShapes Go.WideShapes Go.ChangeAt Go.RowKit
set_option maxRecDepth 20000 in
set_option maxHeartbeats 16000000 in
theorem bookItems_spec (p : Bk) (us ul : Value) (w : World) (h : RBk w us ul p) : Calls Tryz.prog 50 #[.agg #[us, ul]] w fun e w' => ∃ v, e = .returned v ∧ w'.ownsRow w.heap.size 9 1 v (itemsT p).length ((itemsT p).map Value.string) ∧ Below w.heap.size w w' := by
  obtain ⟨a, c, a', c', rfl, rfl⟩ := h.val
  obtain ⟨W0, hW0⟩ : ∃ W0, (w.alloc (.cells #[.slice a p.stocks.length c, .slice a' p.lines.length c'] 39)).alloc (.cells #[] 9) = W0 := ⟨_, rfl⟩
  have hb0 : Below w.heap.size w W0 := by rw [← hW0]; exact ((Below.refl _ _).alloc (Nat.le_refl _) _).alloc (by simp) _
  obtain ⟨x0, x1⟩ := fl_two w (.cells #[.slice a p.stocks.length c, .slice a' p.lines.length c'] 39) (.cells #[] 9)
  rw [hW0] at x0 x1
  have H0 : Hid (Below w.heap.size w W0 ∧ RBk W0 (.slice a p.stocks.length c) (.slice a' p.lines.length c') p ∧ W0.heap[w.heap.size]? = some (.cells #[.slice a p.stocks.length c, .slice a' p.lines.length c'] 39) ∧ W0.heap[w.heap.size + 1]? = some (.cells #[] 9)) := ⟨hb0, h.below hb0, x0, x1⟩
  obtain ⟨c0, c1⟩ := box2 x0
  have hlt0 := (Array.getElem?_eq_some_iff.1 x0).1
  have hlt1 := (Array.getElem?_eq_some_iff.1 x1).1
  clear h hb0 x0 x1
  go_enter Tryz.func50, Tryz.ntmps50
  go_upto_region 2 with fail
  try rw [hW0]
  clear hW0
  obtain ⟨x, hx⟩ : ∃ x, x = bkB p := ⟨_, rfl⟩
  have HX : Hid (x = bkB p) := hx
  have Q1 := fun W h => bookRight_spec p (.slice a p.stocks.length c) (.slice a' p.lines.length c') W h
  rw [← hx] at Q1
  clear hx
  go_wp2_with fail
  refine (Q1 _ H0.out.2.1).mono ?_
  rintro e w1 ⟨rfl, hb1⟩
  have hO1 : w1.ownsRow w.heap.size 9 1 (.slice (some ⟨w.heap.size + 1, 0, none⟩) 0 0) 0 [] := ⟨rfl, .inr ⟨w.heap.size + 1, 0, #[], rfl, by omega, (hb1.block _ hlt1).trans H0.out.2.2.2, Nat.le_refl _, Nat.zero_le _, rfl, rfl⟩⟩
  have H1 : Hid (Below w.heap.size w w1 ∧ RBk w1 (.slice a p.stocks.length c) (.slice a' p.lines.length c') p ∧ w1.heap[w.heap.size]? = some (.cells #[.slice a p.stocks.length c, .slice a' p.lines.length c'] 39) ∧ w1.ownsRow w.heap.size 9 1 (.slice (some ⟨w.heap.size + 1, 0, none⟩) 0 0) 0 []) := ⟨H0.out.1.trans (hb1.mono H0.out.1.size), H0.out.2.1.below hb1, (hb1.block _ hlt0).trans H0.out.2.2.1, hO1⟩
  have hltb := (Array.getElem?_eq_some_iff.1 H1.out.2.2.1).1
  have hlto : w.heap.size + 1 < w1.heap.size := by have := hb1.size; omega
  clear hb1 c0 c1 Q1 hO1
  cases x with
  | false =>
    have HN : Hid (itemsT p = []) := itemsT_no HX.out.symm
    go_wp2
    go_ret
    exact ⟨_, rfl, by rw [HN.out]; exact H1.out.2.2.2, H1.out.1⟩
  | true =>
  have hR := bkB_iff.1 HX.out.symm
  have hl0 := hR.1.len
  have hl1 := hR.2.len
  have HSt : Hid (RowSt w1 (.slice a p.stocks.length c) p.stocks) := H1.out.2.1.st
  have HLn : Hid (RowOl w1 (.slice a' p.lines.length c') p.lines) := H1.out.2.1.ln
  have HB1 : Hid (∀ W, Below w1.heap.size w1 W → W.cell? ⟨w.heap.size, 0, none⟩ = some (.slice a p.stocks.length c) ∧ W.cell? ⟨w.heap.size, 1, none⟩ = some (.slice a' p.lines.length c')) := fun W hW => box2 ((hW.block _ hltb).trans H1.out.2.2.1)
  have HA0 : Hid ((w1.alloc (.cells #[] 9)).ownsRow w1.heap.size 9 1 (.slice (some ⟨w1.heap.size, 0, none⟩) 0 0) 0 [] ∧ Below w1.heap.size w1 (w1.alloc (.cells #[] 9))) := ⟨own0Tx w1 (Nat.le_refl _), (Below.refl _ _).alloc (Nat.le_refl _) _⟩
  clear hR
  go_wp2_with fail
  go_loopw [4, 5] (fun lv ix wr => ∃ (k : Nat) (A : Option Addr) (C : Nat) (ts : List ByteArray), ix = .int .i64 (k : Int) ∧ k ≤ p.stocks.length ∧ ts = (p.stocks.take k).map Stk.item ∧ ts.length = k ∧ lv = .slice A (k) C ∧ wr.ownsRow w1.heap.size 9 1 (.slice A (k) C) (k) (ts.map Value.string) ∧ Below w1.heap.size w1 wr) (fun _ ix _ => p.stocks.length - (intOf ix).toNat)
  case atStart => exact ⟨0, some ⟨w1.heap.size, 0, none⟩, 0, [], rfl, by omega, by simp, rfl, rfl, by simpa using HA0.out.1, HA0.out.2⟩
  case round =>
    obtain ⟨k, A1, C1, ts, rfl, hk, hts, htl, rfl, hO, hb⟩ := hrel
    have HE : Hid (wr.ownsRow w1.heap.size 9 1 (.slice A1 (k) C1) (k) (ts.map Value.string) ∧ Below w1.heap.size w1 wr ∧ ts = (p.stocks.take k).map Stk.item ∧ ts.length = k) := ⟨hO, hb, hts, htl⟩
    obtain ⟨d0, d1⟩ := HB1.out wr hb
    clear hO hts htl
    by_cases hlt : k < p.stocks.length
    · have hlt' : (k : Int) < (p.stocks.length : Int) := by omega
      obtain ⟨b, o, cap', y, e, hs, hat, hz⟩ := (HSt.out.below hb).at hlt
      simp only [Value.slice.injEq, true_and] at e
      obtain ⟨rfl, rfl⟩ := e
      have HS : Hid (p.stocks[k]? = some y) := hs
      obtain ⟨q0, q1⟩ := hat
      have hx5 : Below wr.heap.size wr (wr.alloc (.cells #[.string y.item] 9)) := (Below.refl _ _).alloc (Nat.le_refl _) _
      have hrow5 := ownTx_below HE.out.1 hx5
      have b5 : Below w1.heap.size w1 (wr.alloc (.cells #[.string y.item] 9)) := HE.out.2.1.trans (hx5.mono HE.out.2.1.size)
      have hc5 : (wr.alloc (.cells #[.string y.item] 9)).cell? ⟨wr.heap.size, 0, none⟩ = some (.string y.item) := by simp [go_sem]
      obtain ⟨X, hX⟩ : ∃ X, wr.alloc (.cells #[.string y.item] 9) = X := ⟨_, rfl⟩
      rw [hX] at hrow5 b5 hc5
      have hlen5 : ts.length + 1 ≤ 2000000 := by have := HE.out.2.2.2; omega
      have HET : Hid (ts.length = k) := HE.out.2.2.2
      rw [← HET.out] at hrow5
      have hs5 : w1.heap.size ≤ X.heap.size := b5.size
      clear hs hz hb hx5
      go_upto_region 8 with fail
      go_upto_region 7 with (first | (at_builtin; refine wpList_appTx (base := w1.heap.size) (c := wr.heap.size) (C := 1) (lv := .slice A1 ts.length C1) (ss := ts) (t := y.item) rfl (.tmp 23) (.tmp 30) rfl (by rw [HET.out]; rfl) rfl hrow5 hc5 hlen5 hs5 ?_; rintro v6 w6 hown6 hgrow6 ⟨A6, C6, rfl⟩))
      have H6 : Hid (w6.ownsRow w1.heap.size 9 1 (.slice A6 (ts.length + 1) C6) (ts.length + 1) ((ts ++ [y.item]).map Value.string) ∧ Below w1.heap.size w1 w6) := ⟨hown6, appTx_below b5 hrow5 hgrow6 hs5⟩
      have e5 : ts.length + 1 = (k + 1) := by have := HE.out.2.2.2; omega
      rw [e5] at H6 ⊢
      have H7 : Hid (ts ++ [y.item] = (p.stocks.take (k + 1)).map Stk.item) := by
        show _ = _
        rw [HE.out.2.2.1, List.take_add_one, HS.out]
        simp
      clear hown6 hgrow6 hrow5 b5 hc5 hX e5
      go_wp2
      go_roundw
      case rel => exact ⟨k + 1, A6, C6, ts ++ [y.item], by go_num, by omega, H7.out, by have := HE.out.2.2.2; simp; omega, rfl, H6.out.1, H6.out.2⟩
      case measure => simp [intOf]; omega
    · obtain rfl : k = p.stocks.length := by omega
      have h2 := HE.out
      rw [List.take_length] at h2
      have H2 : Hid (wr.ownsRow w1.heap.size 9 1 (.slice A1 p.stocks.length C1) p.stocks.length (ts.map Value.string) ∧ Below w1.heap.size w1 wr ∧ ts = p.stocks.map Stk.item ∧ ts.length = p.stocks.length) := h2
      clear h2 HE hb
      go_wp2_with fail
      go_loopw [4, 6] (fun lv ix wr => ∃ (k : Nat) (A : Option Addr) (C : Nat) (ts : List ByteArray), ix = .int .i64 (k : Int) ∧ k ≤ p.lines.length ∧ ts = p.stocks.map Stk.item ++ (p.lines.take k).map OLn.item ∧ ts.length = p.stocks.length + k ∧ lv = .slice A (p.stocks.length + k) C ∧ wr.ownsRow w1.heap.size 9 1 (.slice A (p.stocks.length + k) C) (p.stocks.length + k) (ts.map Value.string) ∧ Below w1.heap.size w1 wr) (fun _ ix _ => p.lines.length - (intOf ix).toNat)
      case atStart => exact ⟨0, A1, C1, ts, rfl, by omega, by rw [H2.out.2.2.1]; simp, H2.out.2.2.2, rfl, H2.out.1, H2.out.2.1⟩
      case round =>
        obtain ⟨k, A1, C1, ts, rfl, hk, hts, htl, rfl, hO, hb⟩ := hrel
        have HE : Hid (wr.ownsRow w1.heap.size 9 1 (.slice A1 (p.stocks.length + k) C1) (p.stocks.length + k) (ts.map Value.string) ∧ Below w1.heap.size w1 wr ∧ ts = p.stocks.map Stk.item ++ (p.lines.take k).map OLn.item ∧ ts.length = p.stocks.length + k) := ⟨hO, hb, hts, htl⟩
        obtain ⟨d0, d1⟩ := HB1.out wr hb
        clear hO hts htl
        by_cases hlt : k < p.lines.length
        · have hlt' : (k : Int) < (p.lines.length : Int) := by omega
          obtain ⟨b, o, cap', y, e, hs, hat, hz⟩ := (HLn.out.below hb).at hlt
          simp only [Value.slice.injEq, true_and] at e
          obtain ⟨rfl, rfl⟩ := e
          have HS : Hid (p.lines[k]? = some y) := hs
          obtain ⟨q0, q1, q2, q3, q4, q5, q6, q7⟩ := hat
          have hx5 : Below wr.heap.size wr (wr.alloc (.cells #[.string y.item] 9)) := (Below.refl _ _).alloc (Nat.le_refl _) _
          have hrow5 := ownTx_below HE.out.1 hx5
          have b5 : Below w1.heap.size w1 (wr.alloc (.cells #[.string y.item] 9)) := HE.out.2.1.trans (hx5.mono HE.out.2.1.size)
          have hc5 : (wr.alloc (.cells #[.string y.item] 9)).cell? ⟨wr.heap.size, 0, none⟩ = some (.string y.item) := by simp [go_sem]
          obtain ⟨X, hX⟩ : ∃ X, wr.alloc (.cells #[.string y.item] 9) = X := ⟨_, rfl⟩
          rw [hX] at hrow5 b5 hc5
          have hlen5 : ts.length + 1 ≤ 2000000 := by have := HE.out.2.2.2; omega
          have HET : Hid (ts.length = p.stocks.length + k) := HE.out.2.2.2
          rw [← HET.out] at hrow5
          have hs5 : w1.heap.size ≤ X.heap.size := b5.size
          clear hs hz hb hx5
          go_upto_region 12 with fail
          go_upto_region 11 with (first | (at_builtin; refine wpList_appTx (base := w1.heap.size) (c := wr.heap.size) (C := 1) (lv := .slice A1 ts.length C1) (ss := ts) (t := y.item) rfl (.tmp 39) (.tmp 46) rfl (by rw [HET.out]; rfl) rfl hrow5 hc5 hlen5 hs5 ?_; rintro v6 w6 hown6 hgrow6 ⟨A6, C6, rfl⟩))
          have H6 : Hid (w6.ownsRow w1.heap.size 9 1 (.slice A6 (ts.length + 1) C6) (ts.length + 1) ((ts ++ [y.item]).map Value.string) ∧ Below w1.heap.size w1 w6) := ⟨hown6, appTx_below b5 hrow5 hgrow6 hs5⟩
          have e5 : ts.length + 1 = p.stocks.length + (k + 1) := by have := HE.out.2.2.2; omega
          rw [e5] at H6 ⊢
          have H7 : Hid (ts ++ [y.item] = p.stocks.map Stk.item ++ (p.lines.take (k + 1)).map OLn.item) := by
            show _ = _
            rw [HE.out.2.2.1, List.take_add_one, HS.out]
            simp
          clear hown6 hgrow6 hrow5 b5 hc5 hX e5
          go_wp2
          go_roundw
          case rel => exact ⟨k + 1, A6, C6, ts ++ [y.item], by go_num, by omega, H7.out, by have := HE.out.2.2.2; simp; omega, rfl, H6.out.1, H6.out.2⟩
          case measure => simp [intOf]; omega
        · obtain rfl : k = p.lines.length := by omega
          have h3 := HE.out
          rw [List.take_length] at h3
          have hal : ts = allT p := h3.2.2.1
          have hrow : wr.ownsRow w1.heap.size 9 1 (.slice A1 ts.length C1) ts.length (ts.map Value.string) := by rw [h3.2.2.2]; exact h3.1
          obtain ⟨gA, adA, capA, eA, hSA⟩ := SRow.of_owns hrow
          simp only [Value.slice.injEq, true_and] at eA
          obtain ⟨rfl, rfl⟩ := eA
          rename World => w3
          have hnm := allT_names HX.out.symm
          rw [← hal] at hnm
          have htl : ts.length ≤ 300 := by rw [h3.2.2.2]; omega
          have H3 : Hid (SRow w3 w1.heap.size gA A1 ts ∧ Below w1.heap.size w1 w3 ∧ ts = allT p ∧ ∀ x ∈ ts, nameB x = true) := ⟨hSA, h3.2.1, hal, hnm⟩
          have etl := h3.2.2.2
          clear h3 HE hb hal hrow hSA hnm
          rw [← etl]
          clear etl
          have hO3 := ownTx_below H1.out.2.2.2 H3.out.2.1
          have HO3 : Hid (w3.ownsRow w.heap.size 9 1 (.slice (some ⟨w.heap.size + 1, 0, none⟩) 0 0) 0 [] ∧ Below w.heap.size w w3) := ⟨hO3, H1.out.1.trans (H3.out.2.1.mono H1.out.1.size)⟩
          clear hO3
          go_wp2_with fail
          clear d0 d1
          go_loopw [3] (fun lv wr => ∃ (outs : List ByteArray) (gO C : Nat), lv = .slice (some ⟨gO, 0, none⟩) outs.length C ∧ wr.ownsRow w.heap.size 9 1 (.slice (some ⟨gO, 0, none⟩) outs.length C) outs.length (outs.map Value.string) ∧ (0 < ts.length → gO ≠ gA) ∧ SRow wr w1.heap.size gA A1 ts ∧ Below w.heap.size w wr ∧ PO ts outs) (fun lv _ => ts.length - slLen lv)
          case atStart => exact ⟨[], w.heap.size + 1, 0, rfl, by simpa using HO3.out.1, fun h0 => by have := H3.out.1.base h0; omega, H3.out.1, HO3.out.2, PO.nil ts⟩
          case round =>
            obtain ⟨outs, gO, C, rfl, hOo, hne, hSA, hb, hPO⟩ := hrel
            rename World => w4
            have HE : Hid (w4.ownsRow w.heap.size 9 1 (.slice (some ⟨gO, 0, none⟩) outs.length C) outs.length (outs.map Value.string) ∧ (0 < ts.length → gO ≠ gA) ∧ SRow w4 w1.heap.size gA A1 ts ∧ Below w.heap.size w w4 ∧ PO ts outs) := ⟨hOo, hne, hSA, hb, hPO⟩
            have hol : outs.length ≤ 300 := by have := hPO.len; omega
            clear hOo hne hSA hb hPO
            go_wp2_with fail
            go_loopw [7, 8] (fun nv iv wi => ∃ (k : Nat) (nx : ByteArray), nv = .string nx ∧ iv = .int .i64 (k : Int) ∧ k ≤ ts.length ∧ Below w4.heap.size w4 wi ∧ NX ts outs k nx) (fun _ iv _ => ts.length - (intOf iv).toNat)
            case atStart => exact ⟨0, ⟨#[]⟩, rfl, rfl, by omega, Below.refl _ _, NX.zero ts outs⟩
            case round =>
              obtain ⟨k, nx, rfl, rfl, hk, hbi, hnx⟩ := hrel
              have HI : Hid (Below w4.heap.size w4 wr ∧ NX ts outs k nx) := ⟨hbi, hnx⟩
              clear hbi hnx
              by_cases hlt : k < ts.length
              · have hlt' : (k : Int) < (ts.length : Int) := by omega
                obtain ⟨x, hx⟩ : ∃ x, ts[k]? = some x := ⟨_, List.getElem?_eq_getElem hlt⟩
                have hxn := H3.out.2.2.2 x (List.mem_of_getElem? hx)
                obtain rfl := HE.out.2.2.1.at_ (by omega)
                have HC : Hid (∀ W, Below w4.heap.size w4 W → W.cell? ⟨gA, k, none⟩ = some (.string x)) := fun W hW => by
                  have := (HE.out.2.2.1.below hW).cell k hlt
                  rw [hx] at this
                  exact this
                have HS : Hid (ts[k]? = some x ∧ x ≠ ⟨#[]⟩) := ⟨hx, name_ne hxn⟩
                clear hx hxn
                obtain ⟨lat, hlat⟩ : ∃ lat, lat = latB outs x := ⟨_, rfl⟩
                have HL : Hid (lat = latB outs x) := hlat
                clear hlat
                have c0 := HC.out wr HI.out.1
                go_upto_region 17 with fail
                go_cut [9] from 48 to 86 (fun lv wx => lv = .bool lat ∧ Below w4.heap.size w4 wx)
                case first =>
                  rcases List.eq_nil_or_concat outs with e | ⟨os, l, e⟩
                  · subst e
                    obtain rfl : lat = true := HL.out
                    go_quiet (fail)
                    go_wp2_with fail
                    go_meet
                    exact ⟨rfl, below_drewN HI.out.1 _⟩
                  · rw [List.concat_eq_append] at e
                    have hcl : wr.cell? ⟨gO, os.length, none⟩ = some (.string l) := by
                      obtain ⟨g', ad', cap', e', hSo⟩ := SRow.of_owns HE.out.1
                      simp only [Value.slice.injEq, true_and] at e'
                      have h0 : 0 < outs.length := by rw [e]; simp
                      have h1 := hSo.at_ h0
                      rw [← e'.1] at h1
                      simp only [Option.some.injEq, Addr.mk.injEq, and_true] at h1
                      have h2 := (hSo.below HI.out.1).cell os.length (by rw [e]; simp)
                      rw [← h1] at h2
                      rw [e] at h2
                      simpa using h2
                    have hlen : outs.length = os.length + 1 := by rw [e]; simp
                    have hLt : lat = Op.bytesLess l.toList x.toList := by rw [HL.out, e, latB_app]
                    rw [hlen]
                    obtain ⟨m, hm⟩ : ∃ m, m = os.length := ⟨_, rfl⟩
                    rw [← hm] at hcl ⊢
                    have hm300 : m ≤ 300 := by omega
                    have HLen : Hid (m + 1 = outs.length) := by rw [hm]; exact hlen.symm
                    clear hlen hm e
                    have HLt : Hid (lat = Op.bytesLess l.toList x.toList) := hLt
                    clear hLt
                    have d1 : (((m : Int) + 1) == 0) = false := by simp; omega
                    have d2 : ¬ (m : Int) + 1 = 0 := by omega
                    have d3 : decide ((m : Int) + 1 = 0) = false := by simp; omega
                    have d4 : decide (((m + 1 : Nat) : Int) = 0) = false := by simp; omega
                    have d5 : (((m + 1 : Nat) : Int) == 0) = false := by simp; omega
                    have i0 : (0 : Int) ≤ (m : Int) := by omega
                    have i2 : (m : Int) < (m : Int) + 1 := by omega
                    have i3 : IntKind.i64.wrap ((m : Int) + 1 - 1) = (m : Int) := by rw [show (m : Int) + 1 - 1 = (m : Int) by omega]; simp [IntKind.wrap, IntKind.bits, IntKind.signed]; omega
                    have i4 : IntKind.i64.wrap (m : Int) = (m : Int) := by simp [IntKind.wrap, IntKind.bits, IntKind.signed]; omega
                    cases xx : Op.bytesLess x.toList l.toList with
                    | true =>
                      obtain rfl : lat = false := by rw [HLt.out]; exact bl_asymm xx
                      go_quiet (fail)
                      go_wp2_with fail
                      rw [HLen.out]
                      go_meet
                      exact ⟨rfl, below_drewN HI.out.1 _⟩
                    | false =>
                      cases yy : (x.toList == l.toList) with
                      | true =>
                        obtain rfl : lat = false := by rw [HLt.out]; rw [beq_iff_eq] at yy; rw [yy]; exact bl_irrefl _
                        go_quiet (fail)
                        go_wp2_with fail
                        rw [HLen.out]
                        go_meet
                        exact ⟨rfl, below_drewN HI.out.1 _⟩
                      | false =>
                        obtain rfl : lat = true := by rw [HLt.out, ← gtQ, xx, yy]; rfl
                        go_quiet (fail)
                        go_wp2_with fail
                        rw [HLen.out]
                        go_meet
                        exact ⟨rfl, below_drewN HI.out.1 _⟩
                case rest =>
                  obtain ⟨rfl, hb5⟩ := hcut
                  rename World => w5
                  have H5 : Hid (Below w4.heap.size w4 w5) := hb5
                  have c5 := HC.out w5 hb5
                  clear hb5 c0
                  cases lat with
                  | false =>
                    go_wp2
                    go_roundw
                    case rel => exact ⟨k + 1, nx, rfl, by go_num, by omega, H5.out, HI.out.2.skip HS.out.1 (.inl HL.out.symm)⟩
                    case measure => simp [intOf]; omega
                  | true =>
                    cases e2 : nx.toList.isEmpty with
                    | true =>
                      go_wp2
                      go_roundw
                      case rel => exact ⟨k + 1, x, rfl, by go_num, by omega, H5.out, HI.out.2.take HS.out.1 HS.out.2 HL.out.symm (.inl (isE.1 e2))⟩
                      case measure => simp [intOf]; omega
                    | false =>
                      have hne2 : nx ≠ ⟨#[]⟩ := fun h => by rw [isE.2 h] at e2; cases e2
                      have HN2 : Hid (nx ≠ ⟨#[]⟩) := hne2
                      clear hne2
                      cases e3 : Op.bytesLess x.toList nx.toList with
                      | true =>
                        go_wp2
                        go_roundw
                        case rel => exact ⟨k + 1, x, rfl, by go_num, by omega, H5.out, HI.out.2.take HS.out.1 HS.out.2 HL.out.symm (.inr e3)⟩
                        case measure => simp [intOf]; omega
                      | false =>
                        go_wp2
                        go_roundw
                        case rel => exact ⟨k + 1, nx, rfl, by go_num, by omega, H5.out, HI.out.2.skip HS.out.1 (.inr ⟨HN2.out, e3⟩)⟩
                        case measure => simp [intOf]; omega
              · obtain rfl : k = ts.length := by omega
                cases e2 : nx.toList.isEmpty with
                | true =>
                  have HN : Hid (itemsT p = outs) := by
                    rcases HI.out.2 with ⟨_, h2⟩ | ⟨h2, _⟩
                    · have h4 := HE.out.2.2.2.2
                      rw [H3.out.2.2.1] at h4
                      refine PO.done HX.out.symm h4 fun y hy => ?_
                      rw [← H3.out.2.2.1] at hy
                      obtain ⟨j, hj⟩ := List.getElem?_of_mem hy
                      exact h2 j y (List.getElem?_eq_some_iff.1 hj).1 hj
                    · exact absurd (isE.1 e2) h2
                  have HF : Hid (wr.ownsRow w.heap.size 9 1 (.slice (some ⟨gO, 0, none⟩) outs.length C) outs.length (outs.map Value.string) ∧ Below w.heap.size w wr) := ⟨ownTx_below HE.out.1 HI.out.1, HE.out.2.2.2.1.trans (HI.out.1.mono HE.out.2.2.2.1.size)⟩
                  go_wp2
                  go_ret
                  exact ⟨_, rfl, by rw [HN.out]; exact HF.out.1, HF.out.2⟩
                | false =>
                  have hPO2 : PO ts (outs ++ [nx]) := by
                    rcases HI.out.2 with ⟨h1, _⟩ | ⟨_, h2, h3, h4⟩
                    · rw [isE.2 h1] at e2; cases e2
                    · exact HE.out.2.2.2.2.next h2 h3 fun y hy hl => by
                        obtain ⟨j, hj⟩ := List.getElem?_of_mem hy
                        exact h4 j y (List.getElem?_eq_some_iff.1 hj).1 hj hl
                  have hx5 : Below wr.heap.size wr (wr.alloc (.cells #[.string nx] 9)) := (Below.refl _ _).alloc (Nat.le_refl _) _
                  have b4 : Below w4.heap.size w4 (wr.alloc (.cells #[.string nx] 9)) := HI.out.1.trans (hx5.mono HI.out.1.size)
                  have hrow5 := ownTx_below HE.out.1 b4
                  have hSA5 := HE.out.2.2.1.below b4
                  have hbb := HE.out.2.2.2.1.trans (b4.mono HE.out.2.2.2.1.size)
                  have hc5 : (wr.alloc (.cells #[.string nx] 9)).cell? ⟨wr.heap.size, 0, none⟩ = some (.string nx) := by simp [go_sem]
                  obtain ⟨X, hX⟩ : ∃ X, wr.alloc (.cells #[.string nx] 9) = X := ⟨_, rfl⟩
                  rw [hX] at hrow5 hbb hc5 hSA5
                  have hlen5 : outs.length + 1 ≤ 2000000 := by omega
                  have hs5 : w.heap.size ≤ X.heap.size := hbb.size
                  have HP2 : Hid (PO ts (outs ++ [nx]) ∧ SRow X w1.heap.size gA A1 ts ∧ Below w.heap.size w X) := ⟨hPO2, hSA5, hbb⟩
                  clear hPO2 hx5 b4 hSA5 hbb
                  go_upto_region 22 with fail
                  go_wp2_with (first | (at_builtin; refine wpList_appTy (base := w.heap.size) (c := wr.heap.size) (C := 1) (lv := .slice (some ⟨gO, 0, none⟩) outs.length C) (ss := outs) (t := nx) (by rfl) (.tmp 90) (.tmp 92) rfl rfl rfl hrow5 hc5 hlen5 hs5 ?_; intro g6 cap6 w6 hown6 hgrow6 hat6))
                  have H6 : Hid (w6.ownsRow w.heap.size 9 1 (.slice (some ⟨g6, 0, none⟩) (outs.length + 1) cap6) (outs.length + 1) ((outs ++ [nx]).map Value.string) ∧ (0 < ts.length → g6 ≠ gA) ∧ SRow w6 w1.heap.size gA A1 ts ∧ Below w.heap.size w w6) := by
                    have hkp : Keep gO X w6 := ⟨hgrow6.os, hgrow6.tape, hgrow6.output, hgrow6.size, fun j hj hne => hgrow6.block j hj (by simp [Value.ownBlock]; exact hne)⟩
                    refine ⟨hown6, fun h0 => ?_, HP2.out.2.1.keep hkp fun h0 => Ne.symm (HE.out.2.1 h0), appTx_below HP2.out.2.2 hrow5 hgrow6 hs5⟩
                    rcases hat6 with h | h
                    · simp only [Value.ownBlock, Option.some.injEq] at h
                      rw [← h]
                      exact HE.out.2.1 h0
                    · have := cell_lt (HP2.out.2.1.cell 0 h0)
                      have h7 : gA < X.heap.size := this
                      omega
                  clear hown6 hgrow6 hat6 hrow5 hc5 hX
                  try go_wp2
                  refine ⟨⟨outs ++ [nx], g6, cap6, by simp, by simpa using H6.out.1, H6.out.2.1, H6.out.2.2.1, H6.out.2.2.2, HP2.out.1⟩, ?_⟩
                  have := HP2.out.1.len
                  simp [slLen] at this ⊢
                  omega
end Go.Proofs.YtamlhbjcokkmeaaGreatDoor
