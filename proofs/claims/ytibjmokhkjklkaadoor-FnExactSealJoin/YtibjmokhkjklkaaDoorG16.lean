/- Texts of ours put together: ScW. -/
import Derived.Test.YtibjmokhkjklkaaDoorG04
import Derived.Test.YtibjmokhkjklkaaDoorG07
import Derived.Test.YtibjmokhkjklkaaDoorG08
import Derived.Test.YtibjmokhkjklkaaDoorG10
import Derived.Test.YtibjmokhkjklkaaDoorG15
import Derived.Deep.RegionHeld3
import Derived.Deep.RegionLaw
import Derived.Deep.AppendLies
namespace Go.Proofs.YtibjmokhkjklkaaDoor
open Go.ChangeShapes Go.WideShapes Go.ChangeAt Go.RowKit
theorem taken_any {r : Nat → Value} (B : Nat) (t : ByteArray) (ht : t.size ≤ 4000) (w : World) (h : Dgt false 88 21 r B w) (hB : B < w.heap.size) :
    Calls Tryd.prog 59 #[.pointer (some ⟨B, 0, none⟩), .string t] w fun e w' => e = .returned (.string (takeT t)) ∧ Dgt false 88 21 r B w' ∧ w.grownBy w' (some B) := by
  by_cases h0 : t.size = 0
  · have HE : Hid (takeT t = ⟨#[45]⟩) := if_pos h0
    obtain rfl : t = ⟨#[]⟩ := ByteArray.ext (Array.eq_empty_of_size_eq_zero h0)
    have H1 : Hid (Dgt false 88 21 r B w ∧ w.grownBy w (some B)) := ⟨h, ⟨rfl, rfl, rfl, Nat.le_refl _, fun _ _ _ => rfl⟩⟩
    clear h
    go_enter Tryd.func59, Tryd.ntmps59
    go_wp2
    go_ret
    exact ⟨by rw [HE.out]; rfl, H1.out⟩
  · have HE : Hid (takeT t = ⟨(hexB t.data.toList).toArray⟩) := if_neg h0
    have hne : (t.toList == []) = false ∧ t.toList ≠ [] := nonE fun e => h0 (by rw [e]; rfl)
    obtain ⟨n1, n2⟩ := hne
    have Q := hex_any (by omega : 20 ≤ 21) B t ht w h hB
    clear h
    go_enter Tryd.func59, Tryd.ntmps59
    go_wp2_with fail
    refine Q.mono ?_
    rintro e w1 ⟨rfl, hd, hg⟩
    have H1 : Hid (Dgt false 88 21 r B w1 ∧ w.grownBy w1 (some B)) := ⟨hd, hg⟩
    clear hd hg Q
    go_wp2
    go_ret
    exact ⟨by rw [HE.out]; rfl, H1.out⟩
theorem words_end {r : Nat → Value} {B : Nat} {w W W' w' : World} {lv : Value} (hd : Dgt false 88 21 r B W) (hg : w.grownBy W (some B)) (hB : B < w.heap.size) (ha : Below W.heap.size W W') (hgr : W'.grownBy w' lv.ownBlock) (hlv : ∀ k, lv.ownBlock = some k → w.heap.size + 1 ≤ k) : Dgt false 88 21 r B w' ∧ w.grownBy w' (some B) := by
  have h1 := hd.below ha
  have hs := hg.size
  have hs2 := ha.size
  have hk : ∀ k, k < w.heap.size → w'.heap[k]? = W'.heap[k]? := fun k hk => hgr.block k (by omega) (fun e => by have := hlv k e.symm; omega)
  refine ⟨?_, ⟨hgr.os.trans (ha.os.trans hg.os), hgr.tape.trans (ha.tape.trans hg.tape), hgr.output.trans (ha.output.trans hg.output), Nat.le_trans hs (Nat.le_trans hs2 hgr.size), fun k hk1 hn => (hk k hk1).trans ((ha.block k (by omega)).trans (hg.block k hk1 hn))⟩⟩
  rcases h1 with h | ⟨m, hne, h, hm⟩
  · exact .new (h.of_block (hk B hB))
  · exact .made m hne (h.of_block (hk B hB)) (fun e => by cases e)
set_option maxRecDepth 100000 in
set_option maxHeartbeats 4000000 in
theorem words_any {r : Nat → Value} (B : Nat) (e : EvR) (ho : EvOk e) (w : World) (h : Dgt false 88 21 r B w) (hB : B < w.heap.size) (hw : WrdAt w) :
    Calls Tryd.prog 53 #[.pointer (some ⟨B, 0, none⟩), .agg #[.int .i64 e.kind, .string e.a, .string e.b, .string e.c]] w fun x w' => (∃ c C, x = .returned (.slice (some ⟨c, 0, none⟩) (evR e).length C) ∧ ∀ j t, (evR e)[j]? = some t → j < C ∧ w'.cell? ⟨c, j, none⟩ = some (.string t)) ∧ Dgt false 88 21 r B w' ∧ w.grownBy w' (some B) := by
  obtain ⟨kind, a, b, c⟩ := e
  dsimp only
  obtain ⟨W0, hW0⟩ : ∃ W0, w.alloc (.cells #[.int .i64 kind, .string a, .string b, .string c] 40) = W0 := ⟨_, rfl⟩
  have hb0 : Below w.heap.size w W0 := by rw [← hW0]; exact (Below.refl _ _).alloc (Nat.le_refl _) _
  have k0 : W0.heap[w.heap.size]? = some (.cells #[.int .i64 kind, .string a, .string b, .string c] 40) := by rw [← hW0]; exact World.alloc_heap_new _ _
  have hw0 := hw.below hb0
  obtain ⟨x0, x1, x2, x3⟩ := bx4e k0
  have g1 := hw0 1 (by omega)
  have g2 := hw0 2 (by omega)
  have g3 := hw0 3 (by omega)
  have g4 := hw0 4 (by omega)
  have hs0 : W0.heap.size = w.heap.size + 1 := by rw [← hW0]; simp
  have hd0 := h.below hb0
  have HG : Hid (∀ (k : Nat), k ≤ 4 → ∃ W1, W0.alloc (.cells #[.string (evW k)] 9) = W1 ∧ (W1.cell? ⟨w.heap.size, 0, none⟩ = some (.int .i64 kind) ∧ W1.cell? ⟨w.heap.size, 1, none⟩ = some (.string a) ∧ W1.cell? ⟨w.heap.size, 2, none⟩ = some (.string b) ∧ W1.cell? ⟨w.heap.size, 3, none⟩ = some (.string c)) ∧ W1.ownsRow (w.heap.size + 1) 9 1 (.slice (some ⟨w.heap.size + 1, 0, none⟩) 1 1) [evW k].length ([evW k].map Value.string) ∧ Dgt false 88 21 r B W1 ∧ w.grownBy W1 (some B) ∧ w.heap.size + 1 ≤ W1.heap.size ∧ W1.heap[w.heap.size]? = some (.cells #[.int .i64 kind, .string a, .string b, .string c] 40)) := fun k hk => by
    refine ⟨_, rfl, ?_⟩
    have ha : Below W0.heap.size W0 (W0.alloc (.cells #[.string (evW k)] 9)) := (Below.refl _ _).alloc (Nat.le_refl _) _
    have k1 := (ha.block _ (Array.getElem?_eq_some_iff.1 k0).1).trans k0
    have hbw := hb0.trans (ha.mono hb0.size)
    refine ⟨bx4e k1, ⟨rfl, .inr ⟨w.heap.size + 1, 1, #[.string (evW k)], rfl, Nat.le_refl _, by rw [← hs0]; exact World.alloc_heap_new _ _, Nat.le_refl _, by decide, rfl, rfl⟩⟩, hd0.below ha, ⟨hbw.os, hbw.tape, hbw.output, hbw.size, fun j hj _ => hbw.block j hj⟩, by simp; omega, k1⟩
  clear h hw hw0 hd0 hb0 k0
  rcases ho.ok with ⟨hk, hn, _⟩ | ⟨hk, hn1, hn2, hn3⟩ | ⟨hk, hn, _⟩ | ⟨hk, _⟩
  · simp only at hk
    subst hk
    obtain ⟨W1, hW1, ⟨y0, y1, y2, y3⟩, hrow, hdg, hgr, hsz, _⟩ := HG.out 1 (by omega)
    obtain ⟨lv, hlv⟩ : ∃ lv, lv = Value.slice (some ⟨w.heap.size + 1, 0, none⟩) 1 1 := ⟨_, rfl⟩
    rw [← hlv] at hrow
    have H1 : Hid (W1.ownsRow (w.heap.size + 1) 9 1 lv [evW 1].length ([evW 1].map Value.string) ∧ Dgt false 88 21 r B W1 ∧ w.grownBy W1 (some B) ∧ w.heap.size + 1 ≤ W1.heap.size) := ⟨hrow, hdg, hgr, hsz⟩
    have hB1 : B < W1.heap.size := by omega
    clear hrow hdg hgr hsz
    go_enter Tryd.func53, Tryd.ntmps53
    go_upto_region 2 with fail
    try rw [hW0]
    try rw [hW1]
    try rw [hs0]
    rw [← hlv]
    have HLV : Hid (∀ k, lv.ownBlock = some k → k = w.heap.size + 1) := fun k hk => by rw [hlv] at hk; simpa [Value.ownBlock] using hk.symm
    clear hlv hs0 HG
    clear hW1 hW0 x0 x1 x2 x3 g1 g2 g3 g4
    have hal : Below W1.heap.size W1 (W1.alloc (.cells #[.string a] 9)) := (Below.refl _ _).alloc (Nat.le_refl _) _
    have hro := ownTx_below H1.out.1 hal
    have hce : ∀ (j : Nat) (t : ByteArray), [a][j]? = some t → (W1.alloc (.cells #[.string a] 9)).cell? ⟨W1.heap.size, j, none⟩ = some (.string t) := fun j t hj => by
      have hj4 : j < 1 := (List.getElem?_eq_some_iff.1 hj).1
      match j, hj4 with
      | 0, _ => cases hj; rw [World.cell?, World.alloc_heap_new]; rfl
    have hsz : w.heap.size + 1 ≤ (W1.alloc (.cells #[.string a] 9)).heap.size := by have := H1.out.2.2.2; simp; omega
    go_wp2_with (first | (at_builtin; refine wpList_appsTx (base := w.heap.size + 1) (c := W1.heap.size) (C := 1) (lv := lv) (ss := [evW 1]) (cs := [a]) (by rfl) _ _ rfl rfl rfl hro hce (Nat.succ_pos _) (by simp) hsz ?_; intro v3 w3 ho3 hg3 hx3))
    obtain ⟨H4, H5⟩ := words_end H1.out.2.1 H1.out.2.2.1 hB hal hg3 (fun k hk => (hro.lt k hk).1)
    have H6 : Hid (Dgt false 88 21 r B w3 ∧ w.grownBy w3 (some B)) := ⟨H4, H5⟩
    obtain ⟨g, C, rfl, _, _, hnC, _, hcc⟩ := own_at1 ho3 (by simp)
    have H7 : Hid (∀ (i : Nat) (t : ByteArray), (evR ⟨1, a, b, c⟩)[i]? = some t → i < C ∧ w3.cell? ⟨g, i, none⟩ = some (.string t)) := fun i t hi => by
      refine ⟨by have := (List.getElem?_eq_some_iff.1 hi).1; simp [evR] at this hnC; omega, ?_⟩
      refine hcc i (.string t) ?_
      rw [List.getElem?_map]
      have e : evR ⟨1, a, b, c⟩ = [evW 1] ++ [a] := by  rfl
      rw [e] at hi
      rw [hi]
      rfl
    clear hal hro hce hsz ho3 hg3 hx3 H4 H5 hcc hnC
    go_wp2
    go_ret
    exact ⟨by first | exact ⟨g, C, rfl, H7.out⟩ | exact ⟨g, ⟨C, rfl⟩, H7.out⟩, H6.out⟩
  · simp only at hk
    subst hk
    obtain ⟨W1, hW1, ⟨y0, y1, y2, y3⟩, hrow, hdg, hgr, hsz, _⟩ := HG.out 2 (by omega)
    obtain ⟨lv, hlv⟩ : ∃ lv, lv = Value.slice (some ⟨w.heap.size + 1, 0, none⟩) 1 1 := ⟨_, rfl⟩
    rw [← hlv] at hrow
    have H1 : Hid (W1.ownsRow (w.heap.size + 1) 9 1 lv [evW 2].length ([evW 2].map Value.string) ∧ Dgt false 88 21 r B W1 ∧ w.grownBy W1 (some B) ∧ w.heap.size + 1 ≤ W1.heap.size) := ⟨hrow, hdg, hgr, hsz⟩
    have hB1 : B < W1.heap.size := by omega
    clear hrow hdg hgr hsz
    go_enter Tryd.func53, Tryd.ntmps53
    go_upto_region 2 with fail
    try rw [hW0]
    try rw [hW1]
    try rw [hs0]
    rw [← hlv]
    have HLV : Hid (∀ k, lv.ownBlock = some k → k = w.heap.size + 1) := fun k hk => by rw [hlv] at hk; simpa [Value.ownBlock] using hk.symm
    clear hlv hs0 HG
    clear hW1 hW0 x0 x1 x2 x3 g1 g2 g3 g4
    have hal : Below W1.heap.size W1 (W1.alloc (.cells #[.string a, .string b, .string c] 9)) := (Below.refl _ _).alloc (Nat.le_refl _) _
    have hro := ownTx_below H1.out.1 hal
    have hce : ∀ (j : Nat) (t : ByteArray), [a, b, c][j]? = some t → (W1.alloc (.cells #[.string a, .string b, .string c] 9)).cell? ⟨W1.heap.size, j, none⟩ = some (.string t) := fun j t hj => by
      have hj4 : j < 3 := (List.getElem?_eq_some_iff.1 hj).1
      match j, hj4 with
      | 0, _ => cases hj; rw [World.cell?, World.alloc_heap_new]; rfl
      | 1, _ => cases hj; rw [World.cell?, World.alloc_heap_new]; rfl
      | 2, _ => cases hj; rw [World.cell?, World.alloc_heap_new]; rfl
    have hsz : w.heap.size + 1 ≤ (W1.alloc (.cells #[.string a, .string b, .string c] 9)).heap.size := by have := H1.out.2.2.2; simp; omega
    go_wp2_with (first | (at_builtin; refine wpList_appsTx (base := w.heap.size + 1) (c := W1.heap.size) (C := 3) (lv := lv) (ss := [evW 2]) (cs := [a, b, c]) (by rfl) _ _ rfl rfl rfl hro hce (Nat.succ_pos _) (by simp) hsz ?_; intro v3 w3 ho3 hg3 hx3))
    obtain ⟨H4, H5⟩ := words_end H1.out.2.1 H1.out.2.2.1 hB hal hg3 (fun k hk => (hro.lt k hk).1)
    have H6 : Hid (Dgt false 88 21 r B w3 ∧ w.grownBy w3 (some B)) := ⟨H4, H5⟩
    obtain ⟨g, C, rfl, _, _, hnC, _, hcc⟩ := own_at1 ho3 (by simp)
    have H7 : Hid (∀ (i : Nat) (t : ByteArray), (evR ⟨2, a, b, c⟩)[i]? = some t → i < C ∧ w3.cell? ⟨g, i, none⟩ = some (.string t)) := fun i t hi => by
      refine ⟨by have := (List.getElem?_eq_some_iff.1 hi).1; simp [evR] at this hnC; omega, ?_⟩
      refine hcc i (.string t) ?_
      rw [List.getElem?_map]
      have e : evR ⟨2, a, b, c⟩ = [evW 2] ++ [a, b, c] := by  rfl
      rw [e] at hi
      rw [hi]
      rfl
    clear hal hro hce hsz ho3 hg3 hx3 H4 H5 hcc hnC
    go_wp2
    go_ret
    exact ⟨by first | exact ⟨g, C, rfl, H7.out⟩ | exact ⟨g, ⟨C, rfl⟩, H7.out⟩, H6.out⟩
  · simp only at hk
    subst hk
    obtain ⟨W1, hW1, ⟨y0, y1, y2, y3⟩, hrow, hdg, hgr, hsz, _⟩ := HG.out 3 (by omega)
    obtain ⟨lv, hlv⟩ : ∃ lv, lv = Value.slice (some ⟨w.heap.size + 1, 0, none⟩) 1 1 := ⟨_, rfl⟩
    rw [← hlv] at hrow
    have H1 : Hid (W1.ownsRow (w.heap.size + 1) 9 1 lv [evW 3].length ([evW 3].map Value.string) ∧ Dgt false 88 21 r B W1 ∧ w.grownBy W1 (some B) ∧ w.heap.size + 1 ≤ W1.heap.size) := ⟨hrow, hdg, hgr, hsz⟩
    have hB1 : B < W1.heap.size := by omega
    clear hrow hdg hgr hsz
    go_enter Tryd.func53, Tryd.ntmps53
    go_upto_region 2 with fail
    try rw [hW0]
    try rw [hW1]
    try rw [hs0]
    rw [← hlv]
    have HLV : Hid (∀ k, lv.ownBlock = some k → k = w.heap.size + 1) := fun k hk => by rw [hlv] at hk; simpa [Value.ownBlock] using hk.symm
    clear hlv hs0 HG
    clear hW1 hW0 x0 x1 x2 x3 g1 g2 g3 g4
    have QT := taken_any (r := r) B a hn W1 H1.out.2.1 hB1
    go_wp2_with fail
    refine QT.mono ?_
    rintro e w2 ⟨rfl, hd2, hg2⟩
    have hrow2 : w2.ownsRow (w.heap.size + 1) 9 1 lv [evW 3].length ([evW 3].map Value.string) := H1.out.1.kept hg2 (.inr fun e => by have := HLV.out B e; omega)
    have H2 : Hid (w2.ownsRow (w.heap.size + 1) 9 1 lv [evW 3].length ([evW 3].map Value.string) ∧ Dgt false 88 21 r B w2 ∧ w.grownBy w2 (some B) ∧ w.heap.size + 1 ≤ w2.heap.size) := ⟨hrow2, hd2, gby_trans H1.out.2.2.1 hg2, Nat.le_trans H1.out.2.2.2 hg2.size⟩
    obtain ⟨tt, htt⟩ : ∃ tt, tt = takeT a := ⟨_, rfl⟩
    have HTT : Hid (tt = takeT a) := htt
    rw [← htt]
    clear hrow2 hd2 hg2 QT y0 y1 y2 y3 htt
    have hal : Below w2.heap.size w2 (w2.alloc (.cells #[.string tt] 9)) := (Below.refl _ _).alloc (Nat.le_refl _) _
    have hro := ownTx_below H2.out.1 hal
    have hce : ∀ (j : Nat) (t : ByteArray), [tt][j]? = some t → (w2.alloc (.cells #[.string tt] 9)).cell? ⟨w2.heap.size, j, none⟩ = some (.string t) := fun j t hj => by
      have hj4 : j < 1 := (List.getElem?_eq_some_iff.1 hj).1
      match j, hj4 with
      | 0, _ => cases hj; rw [World.cell?, World.alloc_heap_new]; rfl
    have hsz : w.heap.size + 1 ≤ (w2.alloc (.cells #[.string tt] 9)).heap.size := by have := H2.out.2.2.2; simp; omega
    go_wp2_with (first | (at_builtin; refine wpList_appsTx (base := w.heap.size + 1) (c := w2.heap.size) (C := 1) (lv := lv) (ss := [evW 3]) (cs := [tt]) (by rfl) _ _ rfl rfl rfl hro hce (Nat.succ_pos _) (by simp) hsz ?_; intro v3 w3 ho3 hg3 hx3))
    obtain ⟨H4, H5⟩ := words_end H2.out.2.1 H2.out.2.2.1 hB hal hg3 (fun k hk => (hro.lt k hk).1)
    have H6 : Hid (Dgt false 88 21 r B w3 ∧ w.grownBy w3 (some B)) := ⟨H4, H5⟩
    obtain ⟨g, C, rfl, _, _, hnC, _, hcc⟩ := own_at1 ho3 (by simp)
    have H7 : Hid (∀ (i : Nat) (t : ByteArray), (evR ⟨3, a, b, c⟩)[i]? = some t → i < C ∧ w3.cell? ⟨g, i, none⟩ = some (.string t)) := fun i t hi => by
      refine ⟨by have := (List.getElem?_eq_some_iff.1 hi).1; simp [evR] at this hnC; omega, ?_⟩
      refine hcc i (.string t) ?_
      rw [List.getElem?_map]
      have e : evR ⟨3, a, b, c⟩ = [evW 3] ++ [tt] := by rw [HTT.out]; rfl
      rw [e] at hi
      rw [hi]
      rfl
    clear hal hro hce hsz ho3 hg3 hx3 H4 H5 hcc hnC
    go_wp2
    go_ret
    exact ⟨by first | exact ⟨g, C, rfl, H7.out⟩ | exact ⟨g, ⟨C, rfl⟩, H7.out⟩, H6.out⟩
  · simp only at hk
    subst hk
    obtain ⟨W1, hW1, ⟨y0, y1, y2, y3⟩, hrow, hdg, hgr, hsz, _⟩ := HG.out 4 (by omega)
    have H6 : Hid (Dgt false 88 21 r B W1 ∧ w.grownBy W1 (some B)) := ⟨hdg, hgr⟩
    obtain ⟨g, C, e9, _, _, hnC, _, hcc⟩ := own_at1 hrow (by simp)
    cases e9
    have H7 : Hid (∀ (i : Nat) (t : ByteArray), (evR ⟨4, a, b, c⟩)[i]? = some t → i < 1 ∧ W1.cell? ⟨w.heap.size + 1, i, none⟩ = some (.string t)) := fun i t hi => by
      refine ⟨by have := (List.getElem?_eq_some_iff.1 hi).1; simp [evR] at this hnC; omega, ?_⟩
      refine hcc i (.string t) ?_
      rw [List.getElem?_map]
      have e : evR ⟨4, a, b, c⟩ = [evW 4] := rfl
      rw [e] at hi
      rw [hi]
      rfl
    clear hrow hdg hgr hsz hcc hnC
    go_enter Tryd.func53, Tryd.ntmps53
    go_upto_region 2 with fail
    try rw [hW0]
    try rw [hW1]
    clear hW1 hW0 x0 x1 x2 x3 g1 g2 g3 g4
    go_wp2
    go_ret
    exact ⟨by first | exact ⟨_, _, rfl, H7.out⟩ | exact ⟨_, ⟨_, rfl⟩, H7.out⟩, H6.out⟩
end Go.Proofs.YtibjmokhkjklkaaDoor
