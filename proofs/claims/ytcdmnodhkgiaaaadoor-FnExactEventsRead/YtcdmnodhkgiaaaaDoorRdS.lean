/- Contract of the model's EventsRead. -/
import Derived.Test.YtcdmnodhkgiaaaaDoorEvSp
import Derived.Test.YtcdmnodhkgiaaaaDoorRdI
import Derived.Test.YtcdmnodhkgiaaaaDoorEvJ
namespace Go.Proofs.YtcdmnodhkgiaaaaDoor
open Go.ChangeShapes Go.WideShapes Go.ChangeAt Go.RowKit
/-- What the model's loop keeps: its box is O, its list lies behind. -/
structure SdK (O : Nat) (w1 : World) (lv : Value) (acc : List EvR) (W : World) : Prop where
  x : W.heap[O]? = some (.cells #[lv, .int .i64 0, .int .i64 0] 30)
  row : W.ownsRow (O + 1) 39 4 lv acc.length (clEvs acc)
  bel : Below O w1 W
theorem SdK.siz {O : Nat} {w1 W : World} {lv : Value} {acc : List EvR} (h : SdK O w1 lv acc W) : O + 1 ≤ W.heap.size := (Array.getElem?_eq_some_iff.1 h.x).1
theorem rowEv_below {W W' : World} {base : Nat} {v : Value} {k : Nat} {xs : List Value} (h : W.ownsRow base 39 4 v k xs) (hb : Below W.heap.size W W') : W'.ownsRow base 39 4 v k xs := by
  refine h.kept (row := none) ⟨hb.os, hb.tape, hb.output, hb.size, fun j hj _ => hb.block j hj⟩ ?_
  rcases h.2 with ⟨e, _⟩ | ⟨g, cap, cur, e, _⟩
  · exact .inl (by rw [e]; rfl)
  · exact .inr (by rw [e]; simp [Value.ownBlock])
theorem SdK.below {O : Nat} {w1 W W' : World} {lv : Value} {acc : List EvR} (h : SdK O w1 lv acc W) (hb : Below W.heap.size W W') : SdK O w1 lv acc W' := by
  have hs := h.siz
  exact ⟨(hb.block _ (by omega)).trans h.x, rowEv_below h.row hb, h.bel.trans (hb.mono (by omega))⟩
theorem SdK.app {O : Nat} {w1 W W' : World} {lv v' : Value} {acc : List EvR} {g : EvR} (h : SdK O w1 lv acc W) (hr : W'.ownsRow (O + 1) 39 4 v' (acc ++ [g]).length (clEvs (acc ++ [g]))) (hg : W.grownBy W' lv.ownBlock) : SdK O w1 v' (acc ++ [g]) (W'.setCell ⟨O, 0, none⟩ v') ∧ W'.cell? ⟨O, 0, none⟩ = some lv ∧ ∀ o, W'.frozen? ⟨O, o, none⟩ = false := by
  have hs := h.siz
  have hk : ∀ k, k < O + 1 → W'.heap[k]? = W.heap[k]? := fun k hk => hg.block k (by omega) fun e => by
    have := (h.row.lt k e.symm).1
    omega
  have hx := (hk O (by omega)).trans h.x
  refine ⟨⟨heap_setCell_same W' O 0 _ _ _ hx, ?_, Below.setCell (h.bel.trans ⟨hg.os, hg.tape, hg.output, hg.size, fun k hk' => hk k (by omega)⟩) (Nat.le_refl _) _⟩, by simp [World.cell?, hx], fun o => by simp [World.frozen?, hx]⟩
  refine hr.kept (row := some O) ⟨rfl, rfl, rfl, by simp, fun j hj hn => heap_setCell_other _ _ j _ fun e => hn (by rw [e])⟩ ?_
  cases hv : v'.ownBlock with
  | none => exact .inl rfl
  | some j =>
    refine .inr fun e => ?_
    have := (hr.lt j hv).1
    simp only [Option.some.injEq] at e
    omega
set_option maxRecDepth 100000 in
set_option maxHeartbeats 4000000 in
theorem eventsRead_spec (t : ByteArray) (w : World) : Calls Tryd.prog 10 #[.string t] w fun e w' => ∃ lv, e = .returned (.agg #[lv, .int .i64 ((evJ t).2.1 : Nat), .int .i64 (evJ t).2.2]) ∧ w'.ownsRow w.heap.size 39 4 lv (evJ t).1.length (clEvs (evJ t).1) ∧ Below w.heap.size w w' := by
  obtain ⟨W0, hW0⟩ : ∃ W0, w.alloc (.cells #[.slice none 0 0, .int .i64 0, .int .i64 0] 30) = W0 := ⟨_, rfl⟩
  have hb0 : Below w.heap.size w W0 := by rw [← hW0]; exact (Below.refl _ _).alloc (Nat.le_refl _) _
  have hx0 : W0.heap[w.heap.size]? = some (.cells #[.slice none 0 0, .int .i64 0, .int .i64 0] 30) := by rw [← hW0]; exact World.alloc_heap_new _ _
  have hs0 : W0.heap.size = w.heap.size + 1 := by rw [← hW0]; simp
  by_cases hsz : 20000 < t.size
  · have hsz' : (t.size : Int) > 20000 := by omega
    have HE : Hid (evJ t = ([], 0, 2)) := evJ_long hsz
    have HB : Hid (Below w.heap.size w W0) := hb0
    have HX : Hid (W0.heap[w.heap.size]? = some (.cells #[.slice none 0 0, .int .i64 0, .int .i64 0] 30)) := hx0
    have f1 : ∀ o, W0.frozen? ⟨w.heap.size, o, none⟩ = false := fun o => by simp [World.frozen?, hx0]
    obtain ⟨d0, d1, d2⟩ := bx3 hx0
    clear hb0 hx0 hs0
    go_enter Tryd.func10, Tryd.ntmps10
    go_wp2
    have h4 := set3_new (.slice none 0 0) (.int .i64 0) (.int .i64 2) HX.out
    have hB4 := set3_bel HB.out (Nat.le_refl _) (.slice none 0 0) (.int .i64 0) (.int .i64 2)
    have hR4 := set3_row (n := w.heap.size + 1) (B := w.heap.size) (e := 39) (s := 4) (c := 0) (W := W0) (lv := .slice none 0 0) (xs := []) (World.ownsRow_nil _ _ _ _) (by omega) (.slice none 0 0) (.int .i64 0) (.int .i64 2)
    revert h4 hB4 hR4
    generalize ((W0.setCell ⟨w.heap.size, 0, none⟩ (.slice none 0 0)).setCell ⟨w.heap.size, 1, none⟩ (.int .i64 0)).setCell ⟨w.heap.size, 2, none⟩ (.int .i64 2) = W5
    intro h4 hB4 hR4
    have e0 : W5.cell? ⟨w.heap.size, 0, none⟩ = some (.slice none 0 0) := by simp [World.cell?, h4]
    have e1 : W5.cell? ⟨w.heap.size, 1, none⟩ = some (.int .i64 0) := by simp [World.cell?, h4]
    have e2 : W5.cell? ⟨w.heap.size, 2, none⟩ = some (.int .i64 2) := by simp [World.cell?, h4]
    refine bodyPost_ret (v := .agg #[.slice none 0 0, .int .i64 0, .int .i64 2]) (by simp [results, Tryd.results10, go_sem, e0, e1, e2]; try rfl) rfl ?_
    exact ⟨_, by rw [HE.out]; try rfl, by rw [HE.out]; exact ownEv_down hR4 (by omega), hB4⟩
  have hsz' : ¬ (t.size : Int) > 20000 := by omega
  have Q := l01Split_any t 10 (by omega) W0
  obtain ⟨ls, rest, hpc⟩ : ∃ ls rest, pcB 10 t = ls ++ [rest] := ⟨_, _, (List.dropLast_concat_getLast (pcB_ne 10 t)).symm⟩
  have hpl := pcB_len 10 t
  have HE : Hid (evJ t = rdJ rest 0 ls []) := evJ_cut hsz hpc
  have HLS : Hid (∀ x ∈ ls ++ [rest], x.size ≤ 20000) := fun x hx => Nat.le_trans (pcB_size (c := 10) (by rw [hpc]; exact hx)) (by omega)
  obtain ⟨n, hn⟩ : ∃ n, n = (ls ++ [rest]).length := ⟨_, rfl⟩
  have hn1 : n = ls.length + 1 := by rw [hn]; simp
  rw [hpc, ← hn] at Q
  rw [hpc, ← hn] at hpl
  have ht20 : t.size ≤ 20000 := by omega
  have H0 : Hid (Below w.heap.size w W0 ∧ W0.heap[w.heap.size]? = some (.cells #[.slice none 0 0, .int .i64 0, .int .i64 0] 30) ∧ W0.heap.size = w.heap.size + 1) := ⟨hb0, hx0, hs0⟩
  clear hb0 hx0 hs0 hpc hn hsz
  go_enter Tryd.func10, Tryd.ntmps10
  go_wp2_with fail
  try rw [hW0]
  clear hW0 hsz'
  refine Q.mono ?_
  rintro e w1 ⟨A, C, rfl, hrow, hb1⟩
  obtain ⟨g, rfl, hcl⟩ := rowCell hrow (by omega)
  obtain ⟨O, hO⟩ : ∃ O, w1.heap.size = O := ⟨_, rfl⟩
  have HC : Hid (∀ W, Below O w1 W → ∀ (j : Nat) (x : ByteArray), (ls ++ [rest])[j]? = some x → W.cell? ⟨g, j, none⟩ = some (.string x)) := fun W hW j x hj => by
    have hjn := (List.getElem?_eq_some_iff.1 hj).1
    have hx := hcl j (.string x) (by simp at hjn; omega) (by rw [List.getElem?_map, hj]; rfl)
    rw [← hO] at hW
    exact (hW.cell (World.block_lt_of_cell? _ _ hx)).trans hx
  have HRES : Hid (∀ W, Below O w1 W → W.heap[w.heap.size]? = some (.cells #[.slice none 0 0, .int .i64 0, .int .i64 0] 30) ∧ Below w.heap.size w W) := fun W hW => by
    have h1 := H0.out.2.2
    have h2 := hb1.size
    rw [← hO] at hW
    exact ⟨(hW.block _ (by omega)).trans ((hb1.block _ (by omega)).trans H0.out.2.1), H0.out.1.trans ((hb1.mono (by omega)).trans (hW.mono (by omega)))⟩
  have HO : Hid (w1.heap.size = O ∧ w.heap.size < O) := ⟨hO, by have h1 := H0.out.2.2; have h2 := hb1.size; omega⟩
  have H2 : Hid (SdK O w1 (.slice none 0 0) [] (w1.alloc (.cells #[.slice none 0 0, .int .i64 0, .int .i64 0] 30))) := by
    show SdK _ _ _ _ _
    rw [← hO]
    exact ⟨World.alloc_heap_new _ _, World.ownsRow_nil _ _ _ _, (Below.refl _ _).alloc (Nat.le_refl _) _⟩
  clear hrow hb1 hcl Q H0
  go_wp2_with fail
  clear hO
  go_loopw [5] (fun iv wr => ∃ (k : Nat) (A : Option Addr) (C : Nat) (acc : List EvR), iv = .int .i64 (k : Int) ∧ k ≤ ls.length ∧ acc.length = k ∧ k ≤ 60 ∧ rdJ rest 0 ls [] = rdJ rest k (ls.drop k) acc ∧ SdK O w1 (.slice A acc.length C) acc wr) (fun iv _ => ls.length - (intOf iv).toNat)
  case atStart => exact ⟨0, none, 0, [], rfl, by omega, rfl, by omega, rfl, H2.out⟩
  case round =>
    have hw : wrap64 (ls.length : Int) = (ls.length : Int) := by unfold wrap64; omega
    obtain ⟨k, A1, C1, acc, rfl, hk, hac, hk6, hJ, hI⟩ := hrel
    have HI : Hid (SdK O w1 (.slice A1 acc.length C1) acc wr ∧ acc.length = k ∧ rdJ rest 0 ls [] = rdJ rest k (ls.drop k) acc) := ⟨hI, hac, hJ⟩
    clear hI hJ hac
    by_cases hlt : k < ls.length
    · have hk1 : (k : Int) < (ls.length : Int) + 1 := by omega
      have hk2 : ((k : Int) == (ls.length : Int)) = false := by rw [beq_eq_false_iff_ne]; omega
      obtain ⟨l, hl'⟩ : ∃ l, ls[k]? = some l := ⟨_, List.getElem?_eq_getElem hlt⟩
      have hl2 : (ls ++ [rest])[k]? = some l := by rw [List.getElem?_append_left hlt]; exact hl'
      have kl := HC.out wr HI.out.1.bel k l hl2
      have HMEM : Hid (l ∈ ls ++ [rest]) := List.mem_of_getElem? hl2
      have HD : Hid (ls.drop k = l :: ls.drop (k + 1)) := by
        have e := List.drop_eq_getElem_cons hlt
        have e2 : ls[k] = l := by rw [List.getElem?_eq_getElem hlt] at hl'; exact Option.some.inj hl'
        rw [e2] at e
        exact e
      clear hl' hl2
      have Q := l16Event_any l (HLS.out l HMEM.out) wr
      obtain ⟨y, hy⟩ : ∃ y, y = goodL l := ⟨_, rfl⟩
      have HY : Hid (y = goodL l) := hy
      rw [← hy] at Q
      clear hy
      go_wp2_with fail
      refine Q.mono ?_
      rintro e w3 ⟨ev, rfl, hev, hb3⟩
      obtain ⟨kd, a, b, c⟩ := ev
      have HEV : Hid (y = true → (⟨kd, a, b, c⟩ : EvR) = rdW (pcB 32 l)) := hev
      clear hev
      simp only [vE, evV]
      have H3 : Hid (SdK O w1 (.slice A1 acc.length C1) acc w3) := HI.out.1.below hb3
      obtain ⟨W4, hW4⟩ : ∃ W4, w3.alloc (.cells #[.int .i64 kd, .string a, .string b, .string c] 39) = W4 := ⟨_, rfl⟩
      have hb4 : Below w3.heap.size w3 W4 := by rw [← hW4]; exact (Below.refl _ _).alloc (Nat.le_refl _) _
      have y4 : W4.heap[w3.heap.size]? = some (.cells #[.int .i64 kd, .string a, .string b, .string c] 39) := by rw [← hW4]; exact World.alloc_heap_new _ _
      have H4 : Hid (SdK O w1 (.slice A1 acc.length C1) acc W4) := H3.out.below hb4
      obtain ⟨E, hE⟩ : ∃ E, w3.heap.size = E := ⟨_, rfl⟩
      rw [hE] at y4
      obtain ⟨q0, q1, q2, q3⟩ := bx4e y4
      obtain ⟨r0, r1⟩ := HRES.out W4 H4.out.bel
      have HX : Hid (W4.heap[w.heap.size]? = some (.cells #[.slice none 0 0, .int .i64 0, .int .i64 0] 30) ∧ Below w.heap.size w W4) := ⟨r0, r1⟩
      have f1 : ∀ o, W4.frozen? ⟨w.heap.size, o, none⟩ = false := fun o => by simp [World.frozen?, r0]
      obtain ⟨d0, d1, d2⟩ := bx3 r0
      clear r0 r1 hb4 hb3 Q
      cases y with
      | false =>
        have HE2 : Hid (evJ t = ([], k, 3)) := by
          show evJ t = _
          rw [HE.out, HI.out.2.2, HD.out, rdJ_bad]
          rintro ⟨h1, _⟩
          rw [← HY.out] at h1
          cases h1
        have hd : (60 : Int) ≤ (k : Int) ∨ ¬ (60 : Int) ≤ (k : Int) := by omega
        rcases hd with h60 | h60
        all_goals
          go_wp2
          have h4 := set3_new (.slice none 0 0) (.int .i64 (k : Int)) (.int .i64 3) HX.out.1
          have hB4 := set3_bel HX.out.2 (Nat.le_refl _) (.slice none 0 0) (.int .i64 (k : Int)) (.int .i64 3)
          have hR4 := set3_row (n := w.heap.size + 1) (B := w.heap.size) (e := 39) (s := 4) (c := 0) (W := W4) (lv := .slice none 0 0) (xs := []) (World.ownsRow_nil _ _ _ _) (by omega) (.slice none 0 0) (.int .i64 (k : Int)) (.int .i64 3)
          revert h4 hB4 hR4
          generalize ((W4.setCell ⟨w.heap.size, 0, none⟩ (.slice none 0 0)).setCell ⟨w.heap.size, 1, none⟩ (.int .i64 (k : Int))).setCell ⟨w.heap.size, 2, none⟩ (.int .i64 3) = W5
          intro h4 hB4 hR4
          have e0 : W5.cell? ⟨w.heap.size, 0, none⟩ = some (.slice none 0 0) := by simp [World.cell?, h4]
          have e1 : W5.cell? ⟨w.heap.size, 1, none⟩ = some (.int .i64 (k : Int)) := by simp [World.cell?, h4]
          have e2 : W5.cell? ⟨w.heap.size, 2, none⟩ = some (.int .i64 3) := by simp [World.cell?, h4]
          refine bodyPost_ret (v := .agg #[.slice none 0 0, .int .i64 (k : Int), .int .i64 3]) (by simp [results, Tryd.results10, go_sem, e0, e1, e2]; try rfl) rfl ?_
          exact ⟨_, by rw [HE2.out]; try rfl, by rw [HE2.out]; exact ownEv_down hR4 (by omega), hB4⟩
      | true =>
        by_cases h60 : (60 : Int) ≤ (k : Int)
        · have HE2 : Hid (evJ t = ([], k, 3)) := by
            show evJ t = _
            rw [HE.out, HI.out.2.2, HD.out, rdJ_bad]
            rintro ⟨_, h1⟩
            omega
          go_wp2
          have h4 := set3_new (.slice none 0 0) (.int .i64 (k : Int)) (.int .i64 3) HX.out.1
          have hB4 := set3_bel HX.out.2 (Nat.le_refl _) (.slice none 0 0) (.int .i64 (k : Int)) (.int .i64 3)
          have hR4 := set3_row (n := w.heap.size + 1) (B := w.heap.size) (e := 39) (s := 4) (c := 0) (W := W4) (lv := .slice none 0 0) (xs := []) (World.ownsRow_nil _ _ _ _) (by omega) (.slice none 0 0) (.int .i64 (k : Int)) (.int .i64 3)
          revert h4 hB4 hR4
          generalize ((W4.setCell ⟨w.heap.size, 0, none⟩ (.slice none 0 0)).setCell ⟨w.heap.size, 1, none⟩ (.int .i64 (k : Int))).setCell ⟨w.heap.size, 2, none⟩ (.int .i64 3) = W5
          intro h4 hB4 hR4
          have e0 : W5.cell? ⟨w.heap.size, 0, none⟩ = some (.slice none 0 0) := by simp [World.cell?, h4]
          have e1 : W5.cell? ⟨w.heap.size, 1, none⟩ = some (.int .i64 (k : Int)) := by simp [World.cell?, h4]
          have e2 : W5.cell? ⟨w.heap.size, 2, none⟩ = some (.int .i64 3) := by simp [World.cell?, h4]
          refine bodyPost_ret (v := .agg #[.slice none 0 0, .int .i64 (k : Int), .int .i64 3]) (by simp [results, Tryd.results10, go_sem, e0, e1, e2]; try rfl) rfl ?_
          exact ⟨_, by rw [HE2.out]; try rfl, by rw [HE2.out]; exact ownEv_down hR4 (by omega), hB4⟩
        · have hk60 : k < 60 := by omega
          have HE2 : Hid (rdJ rest 0 ls [] = rdJ rest (k + 1) (ls.drop (k + 1)) (acc ++ [⟨kd, a, b, c⟩])) := by
            show _ = _
            rw [HI.out.2.2, HD.out, rdJ_next (by rw [← HY.out]) hk60, ← HEV.out rfl]
          have H5 : Hid (SdK O w1 (.slice A1 acc.length C1) acc (W4.alloc (.cells #[.int .i64 kd, .string a, .string b, .string c] 39))) := H4.out.below ((Below.refl _ _).alloc (Nat.le_refl _) _)
          have hat : AtEv (W4.alloc (.cells #[.int .i64 kd, .string a, .string b, .string c] 39)) W4.heap.size 0 ⟨kd, a, b, c⟩ := by
            have h := World.alloc_heap_new W4 (.cells #[.int .i64 kd, .string a, .string b, .string c] 39)
            obtain ⟨x0, x1, x2, x3⟩ := bx4e h
            exact ⟨x0, x1, x2, x3⟩
          obtain ⟨X, hX5⟩ : ∃ X, W4.alloc (.cells #[.int .i64 kd, .string a, .string b, .string c] 39) = X := ⟨_, rfl⟩
          rw [hX5] at hat H5
          have hrow5 := H5.out.row
          have hs5 := H5.out.siz
          have hl5 : acc.length + 1 ≤ 2000000 := by have := HI.out.2.1; omega
          have m0 : W4.cell? ⟨O, 0, none⟩ = some (.slice A1 acc.length C1) := (bx3 H4.out.x).1
          clear kl
          go_wp2_with (at_builtin; (try rw [hX5]); refine wpList_appEv (base := O + 1) (c := W4.heap.size) (C := 1) (lv := .slice A1 acc.length C1) (rs := acc) (g := ⟨kd, a, b, c⟩) rfl (.tmp 55) (.tmp 57) rfl rfl rfl hrow5 hat hl5 hs5 ?_; rintro v6 w6 hown6 hgrow6 ⟨A6, C6, rfl⟩; obtain ⟨h6, c6, f6⟩ := H5.out.app hown6 hgrow6; have H6 : Hid (SdK O w1 (.slice A6 (acc ++ ([⟨kd, a, b, c⟩] : List EvR)).length C6) (acc ++ ([⟨kd, a, b, c⟩] : List EvR)) (w6.setCell ⟨O, 0, none⟩ (.slice A6 (acc ++ ([⟨kd, a, b, c⟩] : List EvR)).length C6))) := h6; clear h6 hown6 hgrow6)
          have hxl : (acc ++ ([⟨kd, a, b, c⟩] : List EvR)).length = acc.length + 1 := by simp
          rw [hxl] at H6
          go_roundw
          case rel => exact ⟨k + 1, A6, C6, acc ++ [⟨kd, a, b, c⟩], by go_num, by omega, by have := HI.out.2.1; simp; omega, by omega, HE2.out, by rw [hxl]; exact H6.out⟩
          case measure => simp [intOf]; omega
    · obtain rfl : k = ls.length := by omega
      have hk1 : (ls.length : Int) < (ls.length : Int) + 1 := by omega
      have hk2 : ((ls.length : Int) == (ls.length : Int)) = true := by simp
      have hl2 : (ls ++ [rest])[ls.length]? = some rest := by simp
      have kl := HC.out wr HI.out.1.bel ls.length rest hl2
      have HMEM : Hid (rest ∈ ls ++ [rest]) := List.mem_of_getElem? hl2
      clear hl2 hlt
      by_cases hr0 : rest.size = 0
      · obtain rfl : rest = ⟨#[]⟩ := ByteArray.ext (Array.eq_empty_of_size_eq_zero hr0)
        have HE2 : Hid (evJ t = (acc, 0, 0)) := by
          show evJ t = _
          rw [HE.out, HI.out.2.2, List.drop_length, rdJ_end hr0]
        obtain ⟨r0, r1⟩ := HRES.out wr HI.out.1.bel
        have HX : Hid (wr.heap[w.heap.size]? = some (.cells #[.slice none 0 0, .int .i64 0, .int .i64 0] 30) ∧ Below w.heap.size w wr) := ⟨r0, r1⟩
        have f1 : ∀ o, wr.frozen? ⟨w.heap.size, o, none⟩ = false := fun o => by simp [World.frozen?, r0]
        obtain ⟨d0, d1, d2⟩ := bx3 r0
        obtain ⟨m0, m1, m2⟩ := bx3 HI.out.1.x
        clear r0 r1 hr0
        go_wp2
        have h4 := set3_new (.slice A1 acc.length C1) (.int .i64 0) (.int .i64 0) HX.out.1
        have hB4 := set3_bel HX.out.2 (Nat.le_refl _) (.slice A1 acc.length C1) (.int .i64 0) (.int .i64 0)
        have hR4 := set3_row (n := w.heap.size + 1) (B := w.heap.size) (ownEv_down HI.out.1.row (by have := HO.out.2; omega)) (by omega) (.slice A1 acc.length C1) (.int .i64 0) (.int .i64 0)
        revert h4 hB4 hR4
        generalize ((wr.setCell ⟨w.heap.size, 0, none⟩ (.slice A1 acc.length C1)).setCell ⟨w.heap.size, 1, none⟩ (.int .i64 0)).setCell ⟨w.heap.size, 2, none⟩ (.int .i64 0) = W5
        intro h4 hB4 hR4
        have e0 : W5.cell? ⟨w.heap.size, 0, none⟩ = some (.slice A1 acc.length C1) := by simp [World.cell?, h4]
        have e1 : W5.cell? ⟨w.heap.size, 1, none⟩ = some (.int .i64 0) := by simp [World.cell?, h4]
        have e2 : W5.cell? ⟨w.heap.size, 2, none⟩ = some (.int .i64 0) := by simp [World.cell?, h4]
        refine bodyPost_ret (v := .agg #[.slice A1 acc.length C1, .int .i64 0, .int .i64 0]) (by simp [results, Tryd.results10, go_sem, e0, e1, e2]; try rfl) rfl ?_
        exact ⟨_, by rw [HE2.out]; try rfl, by rw [HE2.out]; exact ownEv_down hR4 (by omega), hB4⟩
      · obtain ⟨n1, n2⟩ := nonE (s := rest) fun e => hr0 (by rw [e]; rfl)
        have HE2 : Hid (evJ t = ([], ls.length, 3)) := by
          show evJ t = _
          rw [HE.out, HI.out.2.2, List.drop_length, rdJ_rest hr0]
        clear hr0
        have Q := l16Event_any rest (HLS.out rest HMEM.out) wr
        obtain ⟨y, hy⟩ : ∃ y, y = goodL rest := ⟨_, rfl⟩
        have HY : Hid (y = goodL rest) := hy
        rw [← hy] at Q
        clear hy
        go_wp2_with fail
        refine Q.mono ?_
        rintro e w3 ⟨ev, rfl, hev, hb3⟩
        obtain ⟨kd, a, b, c⟩ := ev
        have HEV : Hid (y = true → (⟨kd, a, b, c⟩ : EvR) = rdW (pcB 32 rest)) := hev
        clear hev
        simp only [vE, evV]
        have H3 : Hid (SdK O w1 (.slice A1 acc.length C1) acc w3) := HI.out.1.below hb3
        obtain ⟨W4, hW4⟩ : ∃ W4, w3.alloc (.cells #[.int .i64 kd, .string a, .string b, .string c] 39) = W4 := ⟨_, rfl⟩
        have hb4 : Below w3.heap.size w3 W4 := by rw [← hW4]; exact (Below.refl _ _).alloc (Nat.le_refl _) _
        have y4 : W4.heap[w3.heap.size]? = some (.cells #[.int .i64 kd, .string a, .string b, .string c] 39) := by rw [← hW4]; exact World.alloc_heap_new _ _
        have H4 : Hid (SdK O w1 (.slice A1 acc.length C1) acc W4) := H3.out.below hb4
        obtain ⟨E, hE⟩ : ∃ E, w3.heap.size = E := ⟨_, rfl⟩
        rw [hE] at y4
        obtain ⟨q0, q1, q2, q3⟩ := bx4e y4
        obtain ⟨r0, r1⟩ := HRES.out W4 H4.out.bel
        have HX : Hid (W4.heap[w.heap.size]? = some (.cells #[.slice none 0 0, .int .i64 0, .int .i64 0] 30) ∧ Below w.heap.size w W4) := ⟨r0, r1⟩
        have f1 : ∀ o, W4.frozen? ⟨w.heap.size, o, none⟩ = false := fun o => by simp [World.frozen?, r0]
        obtain ⟨d0, d1, d2⟩ := bx3 r0
        clear r0 r1 hb4 hb3 Q
        go_wp2
        have h4 := set3_new (.slice none 0 0) (.int .i64 (ls.length : Int)) (.int .i64 3) HX.out.1
        have hB4 := set3_bel HX.out.2 (Nat.le_refl _) (.slice none 0 0) (.int .i64 (ls.length : Int)) (.int .i64 3)
        have hR4 := set3_row (n := w.heap.size + 1) (B := w.heap.size) (e := 39) (s := 4) (c := 0) (W := W4) (lv := .slice none 0 0) (xs := []) (World.ownsRow_nil _ _ _ _) (by omega) (.slice none 0 0) (.int .i64 (ls.length : Int)) (.int .i64 3)
        revert h4 hB4 hR4
        generalize ((W4.setCell ⟨w.heap.size, 0, none⟩ (.slice none 0 0)).setCell ⟨w.heap.size, 1, none⟩ (.int .i64 (ls.length : Int))).setCell ⟨w.heap.size, 2, none⟩ (.int .i64 3) = W5
        intro h4 hB4 hR4
        have e0 : W5.cell? ⟨w.heap.size, 0, none⟩ = some (.slice none 0 0) := by simp [World.cell?, h4]
        have e1 : W5.cell? ⟨w.heap.size, 1, none⟩ = some (.int .i64 (ls.length : Int)) := by simp [World.cell?, h4]
        have e2 : W5.cell? ⟨w.heap.size, 2, none⟩ = some (.int .i64 3) := by simp [World.cell?, h4]
        refine bodyPost_ret (v := .agg #[.slice none 0 0, .int .i64 (ls.length : Int), .int .i64 3]) (by simp [results, Tryd.results10, go_sem, e0, e1, e2]; try rfl) rfl ?_
        exact ⟨_, by rw [HE2.out]; try rfl, by rw [HE2.out]; exact ownEv_down hR4 (by omega), hB4⟩
end Go.Proofs.YtcdmnodhkgiaaaaDoor
