/- Contract of the program's EventsRead. -/
import Derived.Test.YtcdmnodhkgiaaaaDoorErI
import Derived.Test.YtcdmnodhkgiaaaaDoorClI
import Derived.Test.YtcdmnodhkgiaaaaDoorAppEv
import Derived.Test.YtcdmnodhkgiaaaaDoorEvJ
namespace Go.Proofs.YtcdmnodhkgiaaaaDoor
open Go.ChangeShapes Go.WideShapes Go.ChangeAt Go.RowKit
theorem Scr.row {B M n e s c : Nat} {W W' : World} {lv : Value} {xs : List Value} (h : Scr B M W) (hr : W.ownsRow n e s lv c xs) (hB : B < n) (hM : M < n) (hg : W.grownBy W' lv.ownBlock) : Scr B M W' := by
  have hk : ∀ k, k < n → k < W.heap.size → W'.heap[k]? = W.heap[k]? := fun k hk hl => hg.block k hl fun e => by
    have := (hr.lt k e.symm).1
    omega
  have hMs := omap_lt h.mp
  obtain ⟨es, c', hb, r⟩ := h.mp
  refine ⟨?_, ⟨es, c', (hk M hM hMs).trans hb, r⟩, Nat.lt_of_lt_of_le h.lt hg.size, h.ne⟩
  rcases h.dg with h1 | ⟨m, hne, h1, hm⟩
  · exact .new (h1.of_block (hk B hB h.lt))
  · refine .made m hne (h1.of_block (hk B hB h.lt)) fun e2 => ?_
    obtain ⟨es2, c2, hb2, r2⟩ := hm e2
    refine ⟨es2, c2, (hg.block m (Array.getElem?_eq_some_iff.1 hb2).1 fun e => ?_).trans hb2, r2⟩
    rcases hr.2 with ⟨rfl, _⟩ | ⟨b, cap, cur, rfl, _, hbk, _⟩
    · simp [Value.ownBlock] at e
    · simp only [Value.ownBlock, Option.some.injEq] at e
      rw [← e, hb2] at hbk
      cases hbk
/-- What the loop of EventsRead keeps. -/
structure RdK (B M n : Nat) (w0 : World) (lv : Value) (acc : List EvR) (W : World) : Prop where
  row : W.ownsRow n 39 4 lv acc.length (clEvs acc)
  scr : Scr B M W
  bel : Below B w0 W
  siz : n ≤ W.heap.size
theorem RdK.grown {B M n : Nat} {w0 W W' : World} {lv : Value} {acc : List EvR} (h : RdK B M n w0 lv acc W) (hs : Scr B M W') (hg : W.grownBy W' (some B)) (hn : B < n) : RdK B M n w0 lv acc W' := by
  have hz := h.siz
  refine ⟨h.row.kept hg ?_, hs, h.bel.trans ⟨hg.os, hg.tape, hg.output, hg.size, fun k hk => hg.block k ?_ (by simp; omega)⟩, Nat.le_trans hz hg.size⟩
  · cases hv : lv.ownBlock with
    | none => exact .inl rfl
    | some j =>
      refine .inr fun e => ?_
      have := (h.row.lt j hv).1
      simp only [Option.some.injEq] at e
      omega
  · omega
theorem RdK.below {B M n : Nat} {w0 W W' : World} {lv : Value} {acc : List EvR} (h : RdK B M n w0 lv acc W) (hb : Below W.heap.size W W') (hn : B < n) : RdK B M n w0 lv acc W' := h.grown (h.scr.below hb) (belG hb _) hn
theorem RdK.app {B M n : Nat} {w0 W W' : World} {lv v' : Value} {acc : List EvR} {g : EvR} (h : RdK B M n w0 lv acc W) (hr : W'.ownsRow n 39 4 v' (acc ++ [g]).length (clEvs (acc ++ [g]))) (hg : W.grownBy W' lv.ownBlock) (hB : B < n) (hM : M < n) : RdK B M n w0 v' (acc ++ [g]) W' := by
  have hz := h.siz
  refine ⟨hr, h.scr.row h.row hB hM hg, h.bel.trans ⟨hg.os, hg.tape, hg.output, hg.size, fun k hk => hg.block k (by omega) fun e => ?_⟩, Nat.le_trans hz hg.size⟩
  have := (h.row.lt k e.symm).1
  omega
theorem set3_new {W : World} {B t : Nat} {z0 z1 z2 : Value} (v0 v1 v2 : Value) (hb : W.heap[B]? = some (.cells #[z0, z1, z2] t)) : (((W.setCell ⟨B, 0, none⟩ v0).setCell ⟨B, 1, none⟩ v1).setCell ⟨B, 2, none⟩ v2).heap[B]? = some (.cells #[v0, v1, v2] t) :=
  heap_setCell_same _ B 2 _ t v2 (heap_setCell_same _ B 1 _ t v1 (heap_setCell_same W B 0 _ t v0 hb))
theorem set3_bel {n B : Nat} {w W : World} (hb : Below n w W) (hB : n ≤ B) (v0 v1 v2 : Value) : Below n w (((W.setCell ⟨B, 0, none⟩ v0).setCell ⟨B, 1, none⟩ v1).setCell ⟨B, 2, none⟩ v2) :=
  ((hb.setCell hB _).setCell hB _).setCell hB _
theorem set3_row {n B e s c : Nat} {W : World} {lv : Value} {xs : List Value} (h : W.ownsRow n e s lv c xs) (hB : B < n) (v0 v1 v2 : Value) : (((W.setCell ⟨B, 0, none⟩ v0).setCell ⟨B, 1, none⟩ v1).setCell ⟨B, 2, none⟩ v2).ownsRow n e s lv c xs := by
  have hb : Below B W (((W.setCell ⟨B, 0, none⟩ v0).setCell ⟨B, 1, none⟩ v1).setCell ⟨B, 2, none⟩ v2) := set3_bel (Below.refl _ _) (Nat.le_refl _) v0 v1 v2
  refine h.kept (row := some B) ⟨hb.os, hb.tape, hb.output, hb.size, fun j hj hn => ?_⟩ ?_
  · have hj' : j ≠ B := fun e => hn (by rw [e])
    exact (heap_setCell_other _ _ j _ hj').trans ((heap_setCell_other _ _ j _ hj').trans (heap_setCell_other _ _ j _ hj'))
  · cases hv : lv.ownBlock with
    | none => exact .inl rfl
    | some j =>
      refine .inr fun e => ?_
      have := (h.lt j hv).1
      simp only [Option.some.injEq] at e
      omega
theorem own_cell {W : World} {n e c C : Nat} {A : Option Addr} {xs : List Value} (h : W.ownsRow n e 1 (.slice A c C) c xs) {j : Nat} {v : Value} (hj : j < c) (hv : xs[j]? = some v) : ∃ g, A = some ⟨g, 0, none⟩ ∧ W.cell? ⟨g, j, none⟩ = some v := by
  rcases h.2 with ⟨_, h0⟩ | ⟨g, cap, cur, e1, _, hh, hc, hm, hs, ht⟩
  · omega
  · simp only [Value.slice.injEq] at e1
    refine ⟨g, e1.1, ?_⟩
    rw [← ht] at hv
    rw [List.getElem?_take_of_lt (by omega), Array.getElem?_toList] at hv
    simp only [World.cell?, hh]
    exact hv
theorem bx3 {W : World} {b t : Nat} {x0 x1 x2 : Value} (h : W.heap[b]? = some (.cells #[x0, x1, x2] t)) : W.cell? ⟨b, 0, none⟩ = some x0 ∧ W.cell? ⟨b, 1, none⟩ = some x1 ∧ W.cell? ⟨b, 2, none⟩ = some x2 := by
  refine ⟨?_, ?_, ?_⟩ <;> simp [World.cell?, h]
theorem ownEv_down {W : World} {base base' : Nat} {e : TypeId} {size : Nat} {v : Value} {k : Nat} {xs : List Value} (h : W.ownsRow base e size v k xs) (hb : base' ≤ base) : W.ownsRow base' e size v k xs := by
  obtain ⟨h1, h2⟩ := h
  refine ⟨h1, ?_⟩
  rcases h2 with h2 | ⟨g, cap, cur, e1, h3, h4⟩
  · exact .inl h2
  · exact .inr ⟨g, cap, cur, e1, by omega, h4⟩
set_option maxRecDepth 100000 in
set_option maxHeartbeats 4000000 in
theorem eventsRead_impl (t : ByteArray) (w : World) : Calls Tryd.prog 11 #[.string t] w fun e w' => ∃ lv, e = .returned (.agg #[lv, .int .i64 ((evJ t).2.1 : Nat), .int .i64 (evJ t).2.2]) ∧ w'.ownsRow w.heap.size 39 4 lv (evJ t).1.length (clEvs (evJ t).1) ∧ Below w.heap.size w w' := by
  obtain ⟨W0, hW0⟩ : ∃ W0, w.alloc (.cells #[.slice none 0 0, .int .i64 0, .int .i64 0] 30) = W0 := ⟨_, rfl⟩
  have hb0 : Below w.heap.size w W0 := by rw [← hW0]; exact (Below.refl _ _).alloc (Nat.le_refl _) _
  have hx0 : W0.heap[w.heap.size]? = some (.cells #[.slice none 0 0, .int .i64 0, .int .i64 0] 30) := by rw [← hW0]; exact World.alloc_heap_new _ _
  have hs0 : W0.heap.size = w.heap.size + 1 := by rw [← hW0]; simp
  by_cases hsz : 20000 < t.size
  · have hsz' : (t.size : Int) > 20000 := by omega
    have HE : Hid (evJ t = ([], 0, 2)) := evJ_long hsz
    have HB : Hid (Below w.heap.size w W0) := hb0
    have HX : Hid (W0.heap[w.heap.size]? = some (.cells #[.slice none 0 0, .int .i64 0, .int .i64 0] 30)) := hx0
    have f1 : ∀ o, W0.frozen? ⟨w.heap.size, o, none⟩ = false := fun o => by simp [World.frozen?, hx0]
    obtain ⟨d0, d1, d2⟩ := bx3 hx0
    clear hb0 hx0 hs0
    go_enter Tryd.func11, Tryd.ntmps11
    go_wp2
    have h4 := set3_new (.slice none 0 0) (.int .i64 0) (.int .i64 2) HX.out
    have hB4 := set3_bel HB.out (Nat.le_refl _) (.slice none 0 0) (.int .i64 0) (.int .i64 2)
    have hR4 := set3_row (n := w.heap.size + 1) (B := w.heap.size) (e := 39) (s := 4) (c := 0) (W := W0) (lv := .slice none 0 0) (xs := []) (World.ownsRow_nil _ _ _ _) (by omega) (.slice none 0 0) (.int .i64 0) (.int .i64 2)
    revert h4 hB4 hR4
    generalize ((W0.setCell ⟨w.heap.size, 0, none⟩ (.slice none 0 0)).setCell ⟨w.heap.size, 1, none⟩ (.int .i64 0)).setCell ⟨w.heap.size, 2, none⟩ (.int .i64 2) = W5
    intro h4 hB4 hR4
    have e0 : W5.cell? ⟨w.heap.size, 0, none⟩ = some (.slice none 0 0) := by simp [World.cell?, h4]
    have e1 : W5.cell? ⟨w.heap.size, 1, none⟩ = some (.int .i64 0) := by simp [World.cell?, h4]
    have e2 : W5.cell? ⟨w.heap.size, 2, none⟩ = some (.int .i64 2) := by simp [World.cell?, h4]
    refine bodyPost_ret (v := .agg #[.slice none 0 0, .int .i64 0, .int .i64 2]) (by simp [results, Tryd.results11, go_sem, e0, e1, e2]; try rfl) rfl ?_
    exact ⟨_, by rw [HE.out]; try rfl, by rw [HE.out]; exact ownEv_down hR4 (by omega), hB4⟩
  have hsz' : ¬ (t.size : Int) > 20000 := by omega
  have Q := cutLines_any t (by omega) W0
  have H0 : Hid (Below w.heap.size w W0 ∧ W0.heap[w.heap.size]? = some (.cells #[.slice none 0 0, .int .i64 0, .int .i64 0] 30) ∧ W0.heap.size = w.heap.size + 1) := ⟨hb0, hx0, hs0⟩
  clear hb0 hx0 hs0
  go_enter Tryd.func11, Tryd.ntmps11
  go_wp2_with fail
  try rw [hW0]
  clear hW0
  refine Q.mono ?_
  rintro e w1 ⟨A, C, ls, rest, hpc, rfl, hrow, hb1, hl⟩
  have HE : Hid (evJ t = rdJ rest 0 ls []) := evJ_cut hsz hpc
  have HLS : Hid (∀ x ∈ ls, x.size ≤ 20000) := fun x hx => Nat.le_trans (pcB_size (c := 10) (by rw [hpc]; exact List.mem_append_left _ hx)) (by omega)
  have H1 : Hid (w1.ownsRow W0.heap.size 9 1 (.slice A ls.length C) ls.length (ls.map Value.string) ∧ Below W0.heap.size W0 w1) := ⟨hrow, hb1⟩
  clear hpc hrow hb1 Q hsz hsz'
  go_wp2_with fail
  refine (newScribe_any w1).mono ?_
  rintro e w2 ⟨rfl, hr2, hm2, hb2⟩
  obtain ⟨B, hB⟩ : ∃ B, B = w1.heap.size := ⟨_, rfl⟩
  obtain ⟨M, hM⟩ : ∃ M, M = B + 1 := ⟨_, rfl⟩
  rw [← hB, ← hM] at hr2
  rw [← hB, ← hM] at hm2
  have S2 : Scr B M w2 := ⟨.new hr2, hm2, hr2.lt, by omega⟩
  have hMl := omap_lt hm2
  obtain ⟨n, hn⟩ : ∃ n, n = w2.heap.size := ⟨_, rfl⟩
  have hz1 := H1.out.2.size
  have hz2 := H0.out.2.2
  have HN : Hid (B < n ∧ M < n ∧ w.heap.size + 1 ≤ B ∧ w.heap.size + 1 ≤ n ∧ w2.heap.size = n ∧ B ≤ w2.heap.size) := ⟨by omega, by omega, by omega, by omega, hn.symm, by omega⟩
  have H2 : Hid (RdK B M n w2 (.slice none 0 0) [] w2) := ⟨World.ownsRow_nil _ _ _ _, S2, Below.refl _ _, by omega⟩
  have HX2 : Hid (∀ W, Below B w2 W → Below w.heap.size w W ∧ W.heap[w.heap.size]? = some (.cells #[.slice none 0 0, .int .i64 0, .int .i64 0] 30) ∧ W.ownsRow W0.heap.size 9 1 (.slice A ls.length C) ls.length (ls.map Value.string)) := fun W hW => by
    have hbW : Below w1.heap.size w1 W := hb2.trans (by rw [← hB]; exact hW)
    have hx1 := (H1.out.2.block w.heap.size (by omega)).trans H0.out.2.1
    refine ⟨H0.out.1.trans ((H1.out.2.mono (by omega)).trans (hbW.mono (by omega))), (hbW.block _ (Array.getElem?_eq_some_iff.1 hx1).1).trans hx1, ownTx_below H1.out.1 hbW⟩
  have HB1 : Hid (w1.heap.size = B) := hB.symm
  rw [← hB]
  clear hr2 hm2 hb2 S2 hMl hB hM hn hz1 hz2
  go_wp2_with fail
  go_loopw [5, 23] (fun lv ix wr => ∃ (k : Nat) (A : Option Addr) (C : Nat) (acc : List EvR), ix = .int .i64 (k : Int) ∧ k ≤ ls.length ∧ lv = .slice A acc.length C ∧ acc.length = k ∧ k ≤ 60 ∧ rdJ rest 0 ls [] = rdJ rest k (ls.drop k) acc ∧ RdK B M n w2 (.slice A acc.length C) acc wr) (fun _ ix _ => ls.length - (intOf ix).toNat)
  case atStart => exact ⟨0, none, 0, [], rfl, by omega, rfl, rfl, by omega, rfl, H2.out⟩
  case round =>
    obtain ⟨k, A1, C1, acc, rfl, hk, rfl, hac, hk6, hJ, hI⟩ := hrel
    obtain ⟨hbw, hX, hlr⟩ := HX2.out wr hI.bel
    have HX : Hid (wr.heap[w.heap.size]? = some (.cells #[.slice none 0 0, .int .i64 0, .int .i64 0] 30)) := hX
    have HI : Hid (RdK B M n w2 (.slice A1 acc.length C1) acc wr ∧ acc.length = k ∧ rdJ rest 0 ls [] = rdJ rest k (ls.drop k) acc ∧ Below w.heap.size w wr) := ⟨hI, hac, hJ, hbw⟩
    clear hI hJ hX hbw hac
    by_cases hlt : k < ls.length
    · have hlt' : (k : Int) < (ls.length : Int) := by omega
      obtain ⟨l, hl'⟩ : ∃ l, ls[k]? = some l := ⟨_, List.getElem?_eq_getElem hlt⟩
      obtain ⟨g, hA, hcl⟩ := own_cell hlr (j := k) (v := .string l) hlt (by rw [List.getElem?_map, hl']; rfl)
      subst hA
      have HD : Hid (ls.drop k = l :: ls.drop (k + 1)) := by
        have e := List.drop_eq_getElem_cons hlt
        have e2 : ls[k] = l := by rw [List.getElem?_eq_getElem hlt] at hl'; exact Option.some.inj hl'
        rw [e2] at e
        exact e
      have Q := read_any B M l (HLS.out l (List.mem_of_getElem? hl')) wr HI.out.1.scr
      obtain ⟨ev, hev⟩ : ∃ ev, ev = rdW (pcB 32 l) := ⟨_, rfl⟩
      obtain ⟨y, hy⟩ : ∃ y, y = goodL l := ⟨_, rfl⟩
      have HEV : Hid (ev = rdW (pcB 32 l) ∧ y = goodL l) := ⟨hev, hy⟩
      rw [← hev, ← hy] at Q
      clear hlr hl' hev hy
      go_wp2_with fail
      refine Q.mono ?_
      rintro e w3 ⟨rfl, hs3, hg3⟩
      obtain ⟨kd, a, b, c⟩ := ev
      simp only [vE, evV]
      have H3 : Hid (RdK B M n w2 (.slice A1 acc.length C1) acc w3) := HI.out.1.grown hs3 hg3 HN.out.1
      obtain ⟨W4, hW4⟩ : ∃ W4, w3.alloc (.cells #[.int .i64 kd, .string a, .string b, .string c] 39) = W4 := ⟨_, rfl⟩
      have hb4 : Below w3.heap.size w3 W4 := by rw [← hW4]; exact (Below.refl _ _).alloc (Nat.le_refl _) _
      have y4 : W4.heap[w3.heap.size]? = some (.cells #[.int .i64 kd, .string a, .string b, .string c] 39) := by rw [← hW4]; exact World.alloc_heap_new _ _
      have H4 : Hid (RdK B M n w2 (.slice A1 acc.length C1) acc W4) := H3.out.below hb4 HN.out.1
      obtain ⟨E, hE⟩ : ∃ E, w3.heap.size = E := ⟨_, rfl⟩
      rw [hE] at y4
      obtain ⟨q0, q1, q2, q3⟩ := bx4e y4
      obtain ⟨hbw4, hX4, _⟩ := HX2.out W4 H4.out.bel
      have HX4 : Hid (W4.heap[w.heap.size]? = some (.cells #[.slice none 0 0, .int .i64 0, .int .i64 0] 30) ∧ Below w.heap.size w W4) := ⟨hX4, hbw4⟩
      have f1 : ∀ o, W4.frozen? ⟨w.heap.size, o, none⟩ = false := fun o => by simp [World.frozen?, hX4]
      obtain ⟨d0, d1, d2⟩ := bx3 hX4
      clear hb4 hs3 hg3 Q hbw4 hX4
      cases y with
      | false =>
        have HE2 : Hid (evJ t = ([], k, 3)) := by
          show evJ t = _
          rw [HE.out, HI.out.2.2.1, HD.out, rdJ_bad]
          rintro ⟨h1, _⟩
          rw [← HEV.out.2] at h1
          cases h1
        go_wp2
        have h4 := set3_new (.slice none 0 0) (.int .i64 (k : Int)) (.int .i64 3) HX4.out.1
        have hB4 := set3_bel HX4.out.2 (Nat.le_refl _) (.slice none 0 0) (.int .i64 (k : Int)) (.int .i64 3)
        have hR4 := set3_row (n := w.heap.size + 1) (B := w.heap.size) (e := 39) (s := 4) (c := 0) (W := W4) (lv := .slice none 0 0) (xs := []) (World.ownsRow_nil _ _ _ _) (by omega) (.slice none 0 0) (.int .i64 (k : Int)) (.int .i64 3)
        revert h4 hB4 hR4
        generalize ((W4.setCell ⟨w.heap.size, 0, none⟩ (.slice none 0 0)).setCell ⟨w.heap.size, 1, none⟩ (.int .i64 (k : Int))).setCell ⟨w.heap.size, 2, none⟩ (.int .i64 3) = W5
        intro h4 hB4 hR4
        have e0 : W5.cell? ⟨w.heap.size, 0, none⟩ = some (.slice none 0 0) := by simp [World.cell?, h4]
        have e1 : W5.cell? ⟨w.heap.size, 1, none⟩ = some (.int .i64 (k : Int)) := by simp [World.cell?, h4]
        have e2 : W5.cell? ⟨w.heap.size, 2, none⟩ = some (.int .i64 3) := by simp [World.cell?, h4]
        refine bodyPost_ret (v := .agg #[.slice none 0 0, .int .i64 (k : Int), .int .i64 3]) (by simp [results, Tryd.results11, go_sem, e0, e1, e2]; try rfl) rfl ?_
        exact ⟨_, by rw [HE2.out]; try rfl, by rw [HE2.out]; exact ownEv_down hR4 (by omega), hB4⟩
      | true =>
        by_cases h60 : k = 60
        · have h60' : ((k : Int) == 60) = true := by simp; omega
          have HE2 : Hid (evJ t = ([], k, 3)) := by
            show evJ t = _
            rw [HE.out, HI.out.2.2.1, HD.out, rdJ_bad]
            rintro ⟨_, h1⟩
            omega
          have HK : Hid (k = 60) := h60
          clear h60
          go_wp2
          have h4 := set3_new (.slice none 0 0) (.int .i64 (k : Int)) (.int .i64 3) HX4.out.1
          have hB4 := set3_bel HX4.out.2 (Nat.le_refl _) (.slice none 0 0) (.int .i64 (k : Int)) (.int .i64 3)
          have hR4 := set3_row (n := w.heap.size + 1) (B := w.heap.size) (e := 39) (s := 4) (c := 0) (W := W4) (lv := .slice none 0 0) (xs := []) (World.ownsRow_nil _ _ _ _) (by omega) (.slice none 0 0) (.int .i64 (k : Int)) (.int .i64 3)
          revert h4 hB4 hR4
          generalize ((W4.setCell ⟨w.heap.size, 0, none⟩ (.slice none 0 0)).setCell ⟨w.heap.size, 1, none⟩ (.int .i64 (k : Int))).setCell ⟨w.heap.size, 2, none⟩ (.int .i64 3) = W5
          intro h4 hB4 hR4
          have e0 : W5.cell? ⟨w.heap.size, 0, none⟩ = some (.slice none 0 0) := by simp [World.cell?, h4]
          have e1 : W5.cell? ⟨w.heap.size, 1, none⟩ = some (.int .i64 (k : Int)) := by simp [World.cell?, h4]
          have e2 : W5.cell? ⟨w.heap.size, 2, none⟩ = some (.int .i64 3) := by simp [World.cell?, h4]
          refine bodyPost_ret (v := .agg #[.slice none 0 0, .int .i64 (k : Int), .int .i64 3]) (by simp [results, Tryd.results11, go_sem, e0, e1, e2]; try rfl) rfl ?_
          exact ⟨_, by rw [HE2.out]; try rfl, by rw [HE2.out]; exact ownEv_down hR4 (by omega), hB4⟩
        · have h60' : ((k : Int) == 60) = false := by rw [beq_eq_false_iff_ne]; omega
          have hk60 : k < 60 := by omega
          have HE2 : Hid (rdJ rest 0 ls [] = rdJ rest (k + 1) (ls.drop (k + 1)) (acc ++ [⟨kd, a, b, c⟩])) := by
            show _ = _
            rw [HI.out.2.2.1, HD.out, rdJ_next (by rw [← HEV.out.2]) hk60, ← HEV.out.1]
          have H5 : Hid (RdK B M n w2 (.slice A1 acc.length C1) acc (W4.alloc (.cells #[.int .i64 kd, .string a, .string b, .string c] 39))) := H4.out.below ((Below.refl _ _).alloc (Nat.le_refl _) _) HN.out.1
          have hat : AtEv (W4.alloc (.cells #[.int .i64 kd, .string a, .string b, .string c] 39)) W4.heap.size 0 ⟨kd, a, b, c⟩ := by
            have h := World.alloc_heap_new W4 (.cells #[.int .i64 kd, .string a, .string b, .string c] 39)
            obtain ⟨x0, x1, x2, x3⟩ := bx4e h
            exact ⟨x0, x1, x2, x3⟩
          obtain ⟨X, hX5⟩ : ∃ X, W4.alloc (.cells #[.int .i64 kd, .string a, .string b, .string c] 39) = X := ⟨_, rfl⟩
          rw [hX5] at hat H5
          have hrow5 := H5.out.row
          have hs5 := H5.out.siz
          have hl5 : acc.length + 1 ≤ 2000000 := by have := HI.out.2.1; omega
          clear h60
          go_wp2_with (at_builtin; (try rw [hX5]); refine wpList_appEv (base := n) (c := W4.heap.size) (C := 1) (lv := .slice A1 acc.length C1) (rs := acc) (g := ⟨kd, a, b, c⟩) rfl (.tmp 42) (.tmp 44) rfl rfl rfl hrow5 hat hl5 hs5 ?_; rintro v6 w6 hown6 hgrow6 ⟨A6, C6, rfl⟩; have H6 : Hid (RdK B M n w2 (.slice A6 (acc ++ ([⟨kd, a, b, c⟩] : List EvR)).length C6) (acc ++ ([⟨kd, a, b, c⟩] : List EvR)) w6) := H5.out.app hown6 hgrow6 HN.out.1 HN.out.2.1; clear hown6 hgrow6)
          go_roundw
          case rel => exact ⟨k + 1, A6, C6, acc ++ [⟨kd, a, b, c⟩], by go_num, by omega, by simp, by have := HI.out.2.1; simp; omega, by omega, HE2.out, H6.out⟩
          case measure => simp [intOf]; omega
    · obtain rfl : k = ls.length := by omega
      have f1 : ∀ o, wr.frozen? ⟨w.heap.size, o, none⟩ = false := fun o => by simp [World.frozen?, HX.out]
      obtain ⟨d0, d1, d2⟩ := bx3 HX.out
      clear hlr
      by_cases hr0 : rest.size = 0
      · obtain rfl : rest = ⟨#[]⟩ := ByteArray.ext (Array.eq_empty_of_size_eq_zero hr0)
        have HE2 : Hid (evJ t = (acc, 0, 0)) := by
          show evJ t = _
          rw [HE.out, HI.out.2.2.1, List.drop_length, rdJ_end hr0]
        clear hr0
        go_wp2
        have h4 := set3_new (.slice A1 acc.length C1) (.int .i64 0) (.int .i64 0) HX.out
        have hB4 := set3_bel HI.out.2.2.2 (Nat.le_refl _) (.slice A1 acc.length C1) (.int .i64 0) (.int .i64 0)
        have hR4 := set3_row (n := w.heap.size + 1) (B := w.heap.size) (ownEv_down HI.out.1.row (by have := HN.out.2.2.2.1; omega)) (by omega) (.slice A1 acc.length C1) (.int .i64 0) (.int .i64 0)
        revert h4 hB4 hR4
        generalize ((wr.setCell ⟨w.heap.size, 0, none⟩ (.slice A1 acc.length C1)).setCell ⟨w.heap.size, 1, none⟩ (.int .i64 0)).setCell ⟨w.heap.size, 2, none⟩ (.int .i64 0) = W5
        intro h4 hB4 hR4
        have e0 : W5.cell? ⟨w.heap.size, 0, none⟩ = some (.slice A1 acc.length C1) := by simp [World.cell?, h4]
        have e1 : W5.cell? ⟨w.heap.size, 1, none⟩ = some (.int .i64 0) := by simp [World.cell?, h4]
        have e2 : W5.cell? ⟨w.heap.size, 2, none⟩ = some (.int .i64 0) := by simp [World.cell?, h4]
        refine bodyPost_ret (v := .agg #[.slice A1 acc.length C1, .int .i64 0, .int .i64 0]) (by simp [results, Tryd.results11, go_sem, e0, e1, e2]; try rfl) rfl ?_
        exact ⟨_, by rw [HE2.out]; try rfl, by rw [HE2.out]; exact ownEv_down hR4 (by omega), hB4⟩
      · obtain ⟨n1, n2⟩ := nonE (s := rest) fun e => hr0 (by rw [e]; rfl)
        have HE2 : Hid (evJ t = ([], ls.length, 3)) := by
          show evJ t = _
          rw [HE.out, HI.out.2.2.1, List.drop_length, rdJ_rest hr0]
        clear hr0
        go_wp2
        have h4 := set3_new (.slice none 0 0) (.int .i64 (ls.length : Int)) (.int .i64 3) HX.out
        have hB4 := set3_bel HI.out.2.2.2 (Nat.le_refl _) (.slice none 0 0) (.int .i64 (ls.length : Int)) (.int .i64 3)
        have hR4 := set3_row (n := w.heap.size + 1) (B := w.heap.size) (e := 39) (s := 4) (c := 0) (W := wr) (lv := .slice none 0 0) (xs := []) (World.ownsRow_nil _ _ _ _) (by omega) (.slice none 0 0) (.int .i64 (ls.length : Int)) (.int .i64 3)
        revert h4 hB4 hR4
        generalize ((wr.setCell ⟨w.heap.size, 0, none⟩ (.slice none 0 0)).setCell ⟨w.heap.size, 1, none⟩ (.int .i64 (ls.length : Int))).setCell ⟨w.heap.size, 2, none⟩ (.int .i64 3) = W5
        intro h4 hB4 hR4
        have e0 : W5.cell? ⟨w.heap.size, 0, none⟩ = some (.slice none 0 0) := by simp [World.cell?, h4]
        have e1 : W5.cell? ⟨w.heap.size, 1, none⟩ = some (.int .i64 (ls.length : Int)) := by simp [World.cell?, h4]
        have e2 : W5.cell? ⟨w.heap.size, 2, none⟩ = some (.int .i64 3) := by simp [World.cell?, h4]
        refine bodyPost_ret (v := .agg #[.slice none 0 0, .int .i64 (ls.length : Int), .int .i64 3]) (by simp [results, Tryd.results11, go_sem, e0, e1, e2]; try rfl) rfl ?_
        exact ⟨_, by rw [HE2.out]; try rfl, by rw [HE2.out]; exact ownEv_down hR4 (by omega), hB4⟩
end Go.Proofs.YtcdmnodhkgiaaaaDoor
