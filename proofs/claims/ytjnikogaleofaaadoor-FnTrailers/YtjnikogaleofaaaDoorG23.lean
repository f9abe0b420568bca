/- Texts of ours put together: WordsI, WordsN. -/
import Derived.Test.YtjnikogaleofaaaDoorG22
namespace Go.Proofs.YtjnikogaleofaaaDoor
open Go.ChangeShapes Go.WideShapes Go.ChangeAt Go.RowKit
theorem own_at {W : World} {n₀ n t : Nat} {v : Value} {xs : List Value} (h : W.ownsRow n₀ t 1 v n xs) (hn : 0 < n) : ∃ g C, v = .slice (some ⟨g, 0, none⟩) n C ∧ n₀ ≤ g ∧ ∀ i x, xs[i]? = some x → W.cell? ⟨g, i, none⟩ = some x := by
  rcases h.2 with ⟨_, h0⟩ | ⟨g, cap, cur, rfl, hg, _⟩
  · omega
  · refine ⟨g, cap, rfl, hg, fun i x hi => ?_⟩
    have h1 := h.cells (g := g) rfl i x hi
    have e : (⟨g, 0, none⟩ : Addr).add i = ⟨g, i, none⟩ := by unfold Addr.add; split <;> simp_all
    rwa [e] at h1
set_option maxRecDepth 20000 in
set_option maxHeartbeats 4000000 in
theorem wordsOf_any (tag : ByteArray) (v : Value) (es : List (List ByteArray)) (w : World) (h : RowE w v es) :
    Calls Tryd.prog 30 #[.agg #[.string tag, v], .int .i64 3] w fun e w' => Below w.heap.size w w' ∧ ((∃ a b c g C, es = [[a], [b], [c]] ∧ e = .returned (.tuple #[.slice (some ⟨g, 0, none⟩) 3 C, .bool true]) ∧ w'.cell? ⟨g, 0, none⟩ = some (.string a) ∧ w'.cell? ⟨g, 1, none⟩ = some (.string b) ∧ w'.cell? ⟨g, 2, none⟩ = some (.string c)) ∨ ((∀ a b c, es ≠ [[a], [b], [c]]) ∧ e = .returned (.tuple #[.slice none 0 0, .bool false]))) := by
  obtain ⟨A, C, rfl⟩ := h.val
  have b0 : Below w.heap.size w (w.alloc (.cells #[.string tag, .slice A es.length C] 33)) := (Below.refl _ _).alloc (Nat.le_refl _) _
  have HR : Hid (RowE (w.alloc (.cells #[.string tag, .slice A es.length C] 33)) (.slice A es.length C) es ∧ Below w.heap.size w (w.alloc (.cells #[.string tag, .slice A es.length C] 33))) := ⟨h.below b0, b0⟩
  have hn := h.len
  have hx1 : (w.alloc (.cells #[.string tag, .slice A es.length C] 33)).cell? ⟨w.heap.size, 1, none⟩ = some (.slice A es.length C) := by simp [go_sem]
  clear h b0
  go_enter Tryd.func30, Tryd.ntmps30
  by_cases h3 : es.length = 3
  · obtain ⟨i0, hs0i, hs0, hs1, hs2⟩ := info_parts infoStr
    have hz0 : (w.alloc (.cells #[.string tag, .slice A 3 C] 33)).heap.size = w.heap.size + 1 := by simp
    rw [h3] at HR hx1 ⊢
    have H3 : Hid (es.length = 3) := h3
    clear h3 hn
    go_wp2_with fail
    generalize (w.alloc (.cells #[.string tag, .slice A 3 C] 33)) = W0 at *
    go_loopw [6, 17] (fun pv i wr => ∃ (j : Nat) (ws : List ByteArray), i = .int .i64 (j : Int) ∧ j ≤ 3 ∧ es.take j = ws.map (fun t => [t]) ∧ wr.ownsRow W0.heap.size 9 1 pv j (ws.map Value.string) ∧ Below W0.heap.size W0 wr) (fun _ i _ => 3 - (intOf i).toNat)
    case atStart => exact ⟨0, [], rfl, by omega, rfl, World.ownsRow_nil _ _ _ _, Below.refl _ _⟩
    case round =>
      obtain ⟨j, ws, rfl, hj, hws, hrow, hb⟩ := hrel
      obtain ⟨Ap, Np, Cp, hpv⟩ := row_slice hrow
      subst hpv
      have hNp := row_n' hrow
      subst hNp
      by_cases hlj : Np < 3
      · have hlj' : (Np : Int) < 3 := by omega
        obtain ⟨b, o, cap', ss, ue, e, hs, hc, hE⟩ := (HR.out.1.below hb).at (k := Np) (by rw [H3.out]; exact hlj)
        rw [H3.out] at e
        simp only [Value.slice.injEq, true_and] at e
        obtain ⟨rfl, rfl⟩ := e
        obtain ⟨ne, ce, rfl⟩ := hE.val
        have zw := hb.size
        have bE : Below wr.heap.size wr (wr.alloc (.cells #[.slice ne ss.length ce] 36)) := (Below.refl _ _).alloc (Nat.le_refl _) _
        have hsl := hE.len
        have HB : Hid (wr.ownsRow W0.heap.size 9 1 (.slice Ap Np Cp) Np (ws.map Value.string) ∧ Below W0.heap.size W0 wr ∧ es[Np]? = some ss ∧ es.take Np = ws.map (fun t => [t]) ∧ RowS (wr.alloc (.cells #[.slice ne ss.length ce] 36)) (.slice ne ss.length ce) ss) := ⟨hrow, hb, hs, hws, hE.below bE⟩
        clear hrow hb hs hE bE hws
        by_cases h1 : ss.length = 1
        · obtain ⟨bs, os, caps, t, e3, hst, hct, _⟩ := HB.out.2.2.2.2.at (k := 0) (by omega)
          simp only [Value.slice.injEq, true_and] at e3
          obtain ⟨rfl, rfl⟩ := e3
          have HT : Hid (ss = [t]) := by
            match ss, h1, hst with
            | [x], _, q => simp at q; subst q; exact rfl
          rw [h1, Nat.add_zero] at hct
          rw [h1] at hc
          rw [h1] at HB
          clear hst h1 hsl
          have hmp : Np + 1 ≤ maxLen := by unfold maxLen; omega
          have tok1 : True := trivial
          have bE : Below wr.heap.size wr (wr.alloc (.cells #[.slice (some ⟨bs, os, none⟩) 1 ce] 36)) := (Below.refl _ _).alloc (Nat.le_refl _) _
          have H2 : Hid ((wr.alloc (.cells #[.slice (some ⟨bs, os, none⟩) 1 ce] 36)).ownsRow W0.heap.size 9 1 (.slice Ap Np Cp) Np (ws.map Value.string) ∧ Below W0.heap.size W0 (wr.alloc (.cells #[.slice (some ⟨bs, os, none⟩) 1 ce] 36))) := ⟨row_keep HB.out.1 bE, HB.out.2.1.trans (bE.mono HB.out.2.1.size)⟩
          clear bE hz0
          go_wp2_with (at_builtin; have _t := tok1; refine wpList_append_own _ rfl _ _ 34 rfl W0.heap.size 9 i0 (.string ⟨#[]⟩) 1 16 Tryd.underlying34 hs0i hs0 hs1 hs2 rfl (by decide) _ _ _ rfl (H2.out.1.alloc _) ⟨_, 0, none⟩ 1 1 [.string t] rfl rfl (World.news_of_block (cs := #[.string t]) (t := 9) (fr := (0, 0)) (heap_new2 wr _ _)) (by simp [Value.oneCell']) hmp (by omega) (by simp; omega) ?_; intro u' w4 hown' hgrow _; have HW4 : Hid (w4.ownsRow W0.heap.size 9 1 u' (Np + 1) ((ws ++ [t]).map Value.string) ∧ Below W0.heap.size W0 w4) := ⟨(by rw [List.map_append]; exact hown'), ⟨hgrow.os.trans H2.out.2.os, hgrow.tape.trans H2.out.2.tape, hgrow.output.trans H2.out.2.output, Nat.le_trans H2.out.2.size (Nat.le_trans (by simp) hgrow.size), fun q hq => (hgrow.block q (by simp; omega) (row_lt H2.out.1 hq)).trans ((Below.heap_alloc _ _ _ (by simp; omega)).trans (H2.out.2.block q hq))⟩⟩; clear tok1 hown' hgrow)
          go_roundw
          case rel => exact ⟨Np + 1, ws ++ [t], by go_num, by omega, by rw [List.take_add_one, HB.out.2.2.1, HB.out.2.2.2.1, HT.out]; simp, HW4.out⟩
          case measure => simp [intOf]; omega
        · have h1' : ¬ (ss.length : Int) = 1 := by omega
          go_wp2
          exact bodyPost_ret (v := .tuple #[.slice none 0 0, .bool false]) (by simp [results, Tryd.results30, go_sem]) rfl ⟨(HR.out.2.trans (HB.out.2.1.mono (by omega))).alloc (by omega) _, .inr ⟨fun a b c q => h1 (by
            have := HB.out.2.2.1
            subst q
            have := List.mem_of_getElem? this
            simp at this
            rcases this with r | r | r <;> rw [r] <;> rfl), rfl⟩⟩
      · obtain rfl : Np = 3 := by omega
        rw [List.take_of_length_le (by rw [H3.out]; omega)] at hws
        have h3 := H3.out
        have HB : Hid (Below w.heap.size w wr) := HR.out.2.trans (hb.mono (by omega))
        obtain ⟨g, Cg, hg, _, hcs⟩ := own_at hrow (by omega)
        rw [hws, List.length_map] at h3
        match ws, h3 with
        | [a, b, c], _ =>
          subst hws
          have ca := hcs 0 (.string a) rfl
          have cb := hcs 1 (.string b) rfl
          have cc := hcs 2 (.string c) rfl
          simp only [Value.slice.injEq] at hg
          obtain ⟨rfl, _, rfl⟩ := hg
          clear hcs hrow hb HR
          go_wp2
          exact bodyPost_ret (v := .tuple #[.slice (some ⟨g, 0, none⟩) 3 Cp, .bool true]) (by simp [results, Tryd.results30, go_sem]) rfl ⟨HB.out, .inl ⟨a, b, c, g, Cp, rfl, rfl, ca, cb, cc⟩⟩
  · have h3' : ¬ (es.length : Int) = 3 := by omega
    go_wp2
    exact bodyPost_ret (v := .tuple #[.slice none 0 0, .bool false]) (by simp [results, Tryd.results30, go_sem]) rfl ⟨HR.out.2, .inr ⟨fun a b c q => h3 (by rw [q]; rfl), rfl⟩⟩
end Go.Proofs.YtjnikogaleofaaaDoor
namespace Go.Proofs.YtjnikogaleofaaaDoor
open Go.ChangeShapes Go.WideShapes Go.ChangeAt Go.RowKit
set_option maxRecDepth 20000 in
set_option maxHeartbeats 4000000 in
theorem wordsN_any (k : Nat) (hk : 1 ≤ k ∧ k ≤ 10) (tag : ByteArray) (v : Value) (es : List (List ByteArray)) (w : World) (h : RowE w v es) :
    Calls Tryd.prog 30 #[.agg #[.string tag, v], .int .i64 (k : Int)] w fun e w' => Below w.heap.size w w' ∧ ((∃ (ws : List ByteArray) (g C : Nat), es = ws.map (fun t => [t]) ∧ ws.length = k ∧ e = .returned (.tuple #[.slice (some ⟨g, 0, none⟩) k C, .bool true]) ∧ ∀ (i : Nat) (t : ByteArray), ws[i]? = some t → w'.cell? ⟨g, i, none⟩ = some (.string t)) ∨ ((∀ ws : List ByteArray, ws.length = k → es ≠ ws.map fun t => [t]) ∧ e = .returned (.tuple #[.slice none 0 0, .bool false]))) := by
  obtain ⟨A, C, rfl⟩ := h.val
  have b0 : Below w.heap.size w (w.alloc (.cells #[.string tag, .slice A es.length C] 33)) := (Below.refl _ _).alloc (Nat.le_refl _) _
  have HR : Hid (RowE (w.alloc (.cells #[.string tag, .slice A es.length C] 33)) (.slice A es.length C) es ∧ Below w.heap.size w (w.alloc (.cells #[.string tag, .slice A es.length C] 33))) := ⟨h.below b0, b0⟩
  have hn := h.len
  have hx1 : (w.alloc (.cells #[.string tag, .slice A es.length C] 33)).cell? ⟨w.heap.size, 1, none⟩ = some (.slice A es.length C) := by simp [go_sem]
  clear h b0
  go_enter Tryd.func30, Tryd.ntmps30
  by_cases h3 : es.length = k
  · obtain ⟨i0, hs0i, hs0, hs1, hs2⟩ := info_parts infoStr
    have hz0 : (w.alloc (.cells #[.string tag, .slice A k C] 33)).heap.size = w.heap.size + 1 := by simp
    rw [h3] at HR hx1 ⊢
    have H3 : Hid (es.length = k) := h3
    clear h3 hn
    go_wp2_with fail
    generalize (w.alloc (.cells #[.string tag, .slice A k C] 33)) = W0 at *
    go_loopw [6, 17] (fun pv i wr => ∃ (j : Nat) (ws : List ByteArray), i = .int .i64 (j : Int) ∧ j ≤ k ∧ es.take j = ws.map (fun t => [t]) ∧ wr.ownsRow W0.heap.size 9 1 pv j (ws.map Value.string) ∧ Below W0.heap.size W0 wr) (fun _ i _ => k - (intOf i).toNat)
    case atStart => exact ⟨0, [], rfl, by omega, rfl, World.ownsRow_nil _ _ _ _, Below.refl _ _⟩
    case round =>
      obtain ⟨j, ws, rfl, hj, hws, hrow, hb⟩ := hrel
      obtain ⟨Ap, Np, Cp, hpv⟩ := row_slice hrow
      subst hpv
      have hNp := row_n' hrow
      subst hNp
      by_cases hlj : Np < k
      · have hlj' : (Np : Int) < (k : Int) := by omega
        obtain ⟨b, o, cap', ss, ue, e, hs, hc, hE⟩ := (HR.out.1.below hb).at (k := Np) (by rw [H3.out]; exact hlj)
        rw [H3.out] at e
        simp only [Value.slice.injEq, true_and] at e
        obtain ⟨rfl, rfl⟩ := e
        obtain ⟨ne, ce, rfl⟩ := hE.val
        have zw := hb.size
        have bE : Below wr.heap.size wr (wr.alloc (.cells #[.slice ne ss.length ce] 36)) := (Below.refl _ _).alloc (Nat.le_refl _) _
        have hsl := hE.len
        have HB : Hid (wr.ownsRow W0.heap.size 9 1 (.slice Ap Np Cp) Np (ws.map Value.string) ∧ Below W0.heap.size W0 wr ∧ es[Np]? = some ss ∧ es.take Np = ws.map (fun t => [t]) ∧ RowS (wr.alloc (.cells #[.slice ne ss.length ce] 36)) (.slice ne ss.length ce) ss) := ⟨hrow, hb, hs, hws, hE.below bE⟩
        clear hrow hb hs hE bE hws
        by_cases h1 : ss.length = 1
        · obtain ⟨bs, os, caps, t, e3, hst, hct, _⟩ := HB.out.2.2.2.2.at (k := 0) (by omega)
          simp only [Value.slice.injEq, true_and] at e3
          obtain ⟨rfl, rfl⟩ := e3
          have HT : Hid (ss = [t]) := by
            match ss, h1, hst with
            | [x], _, q => simp at q; subst q; exact rfl
          rw [h1, Nat.add_zero] at hct
          rw [h1] at hc
          rw [h1] at HB
          clear hst h1 hsl
          have hmp : Np + 1 ≤ maxLen := by unfold maxLen; omega
          have tok1 : True := trivial
          have bE : Below wr.heap.size wr (wr.alloc (.cells #[.slice (some ⟨bs, os, none⟩) 1 ce] 36)) := (Below.refl _ _).alloc (Nat.le_refl _) _
          have H2 : Hid ((wr.alloc (.cells #[.slice (some ⟨bs, os, none⟩) 1 ce] 36)).ownsRow W0.heap.size 9 1 (.slice Ap Np Cp) Np (ws.map Value.string) ∧ Below W0.heap.size W0 (wr.alloc (.cells #[.slice (some ⟨bs, os, none⟩) 1 ce] 36))) := ⟨row_keep HB.out.1 bE, HB.out.2.1.trans (bE.mono HB.out.2.1.size)⟩
          clear bE hz0
          go_wp2_with (at_builtin; have _t := tok1; refine wpList_append_own _ rfl _ _ 34 rfl W0.heap.size 9 i0 (.string ⟨#[]⟩) 1 16 Tryd.underlying34 hs0i hs0 hs1 hs2 rfl (by decide) _ _ _ rfl (H2.out.1.alloc _) ⟨_, 0, none⟩ 1 1 [.string t] rfl rfl (World.news_of_block (cs := #[.string t]) (t := 9) (fr := (0, 0)) (heap_new2 wr _ _)) (by simp [Value.oneCell']) hmp (by omega) (by simp; omega) ?_; intro u' w4 hown' hgrow _; have HW4 : Hid (w4.ownsRow W0.heap.size 9 1 u' (Np + 1) ((ws ++ [t]).map Value.string) ∧ Below W0.heap.size W0 w4) := ⟨(by rw [List.map_append]; exact hown'), ⟨hgrow.os.trans H2.out.2.os, hgrow.tape.trans H2.out.2.tape, hgrow.output.trans H2.out.2.output, Nat.le_trans H2.out.2.size (Nat.le_trans (by simp) hgrow.size), fun q hq => (hgrow.block q (by simp; omega) (row_lt H2.out.1 hq)).trans ((Below.heap_alloc _ _ _ (by simp; omega)).trans (H2.out.2.block q hq))⟩⟩; clear tok1 hown' hgrow)
          go_roundw
          case rel => exact ⟨Np + 1, ws ++ [t], by go_num, by omega, by rw [List.take_add_one, HB.out.2.2.1, HB.out.2.2.2.1, HT.out]; simp, HW4.out⟩
          case measure => simp [intOf]; omega
        · have h1' : ¬ (ss.length : Int) = 1 := by omega
          go_wp2
          exact bodyPost_ret (v := .tuple #[.slice none 0 0, .bool false]) (by simp [results, Tryd.results30, go_sem]) rfl ⟨(HR.out.2.trans (HB.out.2.1.mono (by omega))).alloc (by omega) _, .inr ⟨fun ws _ q => h1 (by
            have := HB.out.2.2.1
            subst q
            have := List.mem_of_getElem? this
            simp only [List.mem_map] at this
            obtain ⟨x, _, rfl⟩ := this
            rfl), rfl⟩⟩
      · obtain rfl : Np = k := by omega
        rw [List.take_of_length_le (by rw [H3.out]; omega)] at hws
        have h3 := H3.out
        have HB : Hid (Below w.heap.size w wr) := HR.out.2.trans (hb.mono (by omega))
        obtain ⟨g, Cg, hg, _, hcs⟩ := own_at hrow (by omega)
        rw [hws, List.length_map] at h3
        have HC : Hid (∀ (i : Nat) (t : ByteArray), ws[i]? = some t → wr.cell? ⟨g, i, none⟩ = some (.string t)) := fun i t hi => hcs i (.string t) (by rw [List.getElem?_map, hi]; rfl)
        simp only [Value.slice.injEq] at hg
        obtain ⟨rfl, _, rfl⟩ := hg
        clear hcs hrow hb HR
        go_wp2
        exact bodyPost_ret (v := .tuple #[.slice (some ⟨g, 0, none⟩) Np Cp, .bool true]) (by simp [results, Tryd.results30, go_sem]) rfl ⟨HB.out, .inl ⟨ws, g, Cp, hws, h3, rfl, HC.out⟩⟩
  · have h3' : ¬ (es.length : Int) = (k : Int) := by omega
    go_wp2
    exact bodyPost_ret (v := .tuple #[.slice none 0 0, .bool false]) (by simp [results, Tryd.results30, go_sem]) rfl ⟨HR.out.2, .inr ⟨fun ws hl q => h3 (by rw [q, List.length_map, hl]), rfl⟩⟩
end Go.Proofs.YtjnikogaleofaaaDoor
