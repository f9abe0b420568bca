/- Contract of impl.TableCheck, at every kind and every list of segments whose texts have at most 2^20 bytes. -/
import Derived.Test.YtphgheojfnlgjaaDoorTakeI
namespace Go.Proofs.YtphgheojfnlgjaaDoor
open Go.ChangeShapes Go.WideShapes Go.ChangeAt Go.RowKit
def tcVal (p : Int × Int × Int) : Value := .agg #[.int .i64 p.1, .int .i64 p.2.1, .int .i64 p.2.2]
theorem tcV_big {n : Int} {gs : List Seg} (h : 400 < gs.length) : tcV n gs = (0, 0, 2) := by unfold tcV; rw [if_pos h]
theorem tcV_no {n : Int} {gs : List Seg} (h : ¬ 400 < gs.length) (hk : ¬ (1 ≤ n ∧ n ≤ 7)) : tcV n gs = (0, 0, 1) := by unfold tcV; rw [if_neg h, if_neg hk]
theorem tcV_yes {n : Int} {gs : List Seg} (h : ¬ 400 < gs.length) (hk : 1 ≤ n ∧ n ≤ 7) : tcV n gs = tc gs (rowsI n) 0 (bs []) := by unfold tcV; rw [if_neg h, if_pos hk]
theorem fz_new (w : World) (c : Array Value) (t o : Nat) : (w.alloc (.cells c t)).frozen? ⟨w.heap.size, o, none⟩ = false := by
  have h := World.alloc_heap_new w (.cells c t)
  unfold World.frozen?
  simp only [h]
  simp
theorem rows_form {k : Nat} (h1 : 1 ≤ k) (h7 : k ≤ 7) : ∀ r ∈ rowsK k, r.form.length ≤ 1048576 := by
  obtain rfl | rfl | rfl | rfl | rfl | rfl | rfl : k = 1 ∨ k = 2 ∨ k = 3 ∨ k = 4 ∨ k = 5 ∨ k = 6 ∨ k = 7 := by omega
  all_goals
    intro r hr
    simp only [rowsK, List.mem_cons, List.not_mem_nil, or_false] at hr
    rcases hr with rfl | rfl | rfl <;> decide
theorem tk_nil (r : TRow) (c : Nat) : tk r [] c = (c, -1) := rfl
theorem RowG.nil (W : World) (A : Option Addr) (C : Nat) : RowG W (.slice A 0 C) [] := ⟨⟨A, C, rfl, fun h => absurd rfl h⟩, by simp, fun i g h => by simp at h⟩
theorem RowG.drop {W : World} {ad : Addr} {cap : Nat} {gs : List Seg} (h : RowG W (.slice (some ad) gs.length cap) gs) {k : Nat} (hk : k ≤ gs.length) (hc : gs.length ≤ cap) :
    RowG W (.slice (if cap = k then some ad else some (ad.add (k * 2))) (gs.length - k) (cap - k)) (gs.drop k) := by
  refine ⟨⟨_, _, by rw [List.length_drop], fun hn => ?_⟩, by have := h.len; rw [List.length_drop]; omega, fun i g hg => h.sizes (k + i) g (by rw [List.getElem?_drop] at hg; exact hg)⟩
  have hlt : k < gs.length := by
    rcases Nat.lt_or_ge k gs.length with g | g
    · exact g
    · exact absurd (List.drop_of_length_le g) hn
  obtain ⟨a, c, e, hs⟩ := h.shape
  simp only [Value.slice.injEq] at e
  obtain ⟨b, o, ea, hcell⟩ := hs (fun e => by rw [e] at hlt; simp at hlt)
  rw [if_neg (by omega)]
  rw [← e.1] at ea
  simp only [Option.some.injEq] at ea
  subst ea
  refine ⟨b, o + k * 2, by rw [show (⟨b, o, none⟩ : Addr).add (k * 2) = ⟨b, o + k * 2, none⟩ by unfold Addr.add; split <;> simp_all], fun i g hg => ?_⟩
  rw [List.getElem?_drop] at hg
  have := hcell (k + i) g hg
  rw [show o + (k + i) * 2 = o + k * 2 + i * 2 by omega] at this
  exact this
theorem RowG.dropAll {W : World} {A : Option Addr} {C : Nat} {gs : List Seg} {k : Nat} (hk : gs.length ≤ k) : RowG W (.slice A (gs.length - k) C) (gs.drop k) := by
  rw [List.drop_of_length_le hk, show gs.length - k = 0 by omega]
  exact RowG.nil _ _ _
theorem RowG.none_len {W : World} {C : Nat} {gs : List Seg} (h : RowG W (.slice none gs.length C) gs) : gs.length = 0 := by
  obtain ⟨a, c, e, hs⟩ := h.shape
  simp only [Value.slice.injEq] at e
  cases gs with
  | nil => rfl
  | cons g l =>
    obtain ⟨b, o, ea, _⟩ := hs (by simp)
    rw [ea] at e
    cases e.1
theorem BdG.drop {n : Nat} {gs : List Seg} (h : BdG n gs) (k : Nat) : BdG n (gs.drop k) := by
  refine ⟨by have := h.1; rw [List.length_drop]; omega, fun i g hg => h.2 (k + i) g (by rw [List.getElem?_drop] at hg; exact hg)⟩
set_option maxHeartbeats 4000000 in
theorem tableCheck_impl (n : Int) (v : Value) (gs : List Seg) (w : World) (h : RowG w v gs) (hG : BdG 1048576 gs) (hcv : ∃ A C, v = .slice A gs.length C ∧ gs.length ≤ C ∧ C ≤ maxLen) (hT : TablesAt w) (hE : ErrsAt w) :
    Calls Tryd.prog 6 #[.int .i64 n, v] w fun e w' => e = .returned (tcVal (tcV n gs)) ∧ Below w.heap.size w w' := by
  obtain ⟨a, cap, rfl, hcap, hcm⟩ := hcv
  have hgl := hG.1
  have b0 : Below w.heap.size w (w.alloc (.cells #[.int .i64 0, .int .i64 0, .int .i64 0] 27)) := (Below.refl _ _).alloc (Nat.le_refl _) _
  by_cases hl : 400 < gs.length
  · have hl' : (400 : Int) < (gs.length : Int) := by omega
    rw [tcV_big hl]
    clear h
    go_enter Tryd.func6, Tryd.ntmps6
    go_wp2
    exact bodyPost_ret (v := tcVal (0, 0, 2)) (by simp [results, Tryd.results6, go_sem, tcVal]) rfl ⟨rfl, by first | exact b0 | exact (Below.refl _ _).alloc (Nat.le_refl _) _⟩
  · have hl' : (gs.length : Int) ≤ 400 := by omega
    by_cases hk : 1 ≤ n ∧ n ≤ 7
    · rw [tcV_yes hl hk]
      have hB : kindB n = true := by simp [kindB, hk]
      obtain ⟨k, rfl⟩ : ∃ k : Nat, n = k := ⟨n.toNat, by omega⟩
      obtain ⟨_, b, off, cp, c1, hc1, hc2, hb, hR⟩ := (hT.below b0 rfl) k (by omega) (by omega)
      have hk7 : k ≤ 7 := by omega
      have hk1 : 1 ≤ k := by omega
      have hrl : (rowsK k).length ≤ 3 := by have := rowsI_len (k : Int); simpa [rowsI, hk] using this
      have HR : Hid (RowsAt (w.alloc (.cells #[.int .i64 0, .int .i64 0, .int .i64 0] 27)) b off (rowsK k) ∧ rowsI (k : Int) = rowsK k) := ⟨hR, by simp [rowsI, hk]⟩
      have H : Hid (RowG (w.alloc (.cells #[.int .i64 0, .int .i64 0, .int .i64 0] 27)) (.slice a gs.length cap) gs ∧ BdG 1048576 gs ∧ ErrsAt (w.alloc (.cells #[.int .i64 0, .int .i64 0, .int .i64 0] 27))) := ⟨h.below b0, hG, hE.below b0⟩
      rw [HR.out.2]
      generalize hP : tc gs (rowsK k) 0 (bs []) = P
      have HP : Hid (tc gs (rowsK k) 0 (bs []) = P) := hP
      clear hP h hG hE hT hR
      go_enter Tryd.func6, Tryd.ntmps6
      go_wp2_with (go_at_call 17; refine (isKind_any _ _).mono ?_; rintro e w1 ⟨rfl, rfl⟩; rw [hB]; try dsimp only)
      go_loopw [5, 6, 24] (fun av lv i wr => ∃ (j at_ : Nat) (l : ByteArray), i = .int .i64 (j : Int) ∧ av = .int .i64 (at_ : Int) ∧ lv = .string l ∧ j ≤ (rowsK k).length ∧ at_ ≤ gs.length ∧ tc gs ((rowsK k).drop j) at_ l = P ∧ Below (w.heap.size + 1) (w.alloc (.cells #[.int .i64 0, .int .i64 0, .int .i64 0] 27)) wr) (fun _ _ i _ => (rowsK k).length - (intOf i).toNat)
      case atStart => exact ⟨0, 0, bs [], rfl, rfl, rfl, by omega, by omega, HP.out, Below.refl _ _⟩
      case round =>
        obtain ⟨j, at_, l, rfl, rfl, rfl, hj, hat, htc, hbw⟩ := hrel
        have HT : Hid (tc gs ((rowsK k).drop j) at_ l = P) := htc
        have hwz : w.heap.size + 1 ≤ wr.heap.size := by have := hbw.size; simpa using this
        have hbw' : Below (w.alloc (.cells #[.int .i64 0, .int .i64 0, .int .i64 0] 27)).heap.size (w.alloc (.cells #[.int .i64 0, .int .i64 0, .int .i64 0] 27)) wr := hbw.mono (Nat.le_of_eq (World.size_alloc ..))
        have HB : Hid (Below w.heap.size w wr ∧ Below (w.heap.size + 1) (w.alloc (.cells #[.int .i64 0, .int .i64 0, .int .i64 0] 27)) wr) := ⟨b0.trans (hbw.mono (by omega)), hbw⟩
        have z0 : wr.cell? ⟨w.heap.size, 0, none⟩ = some (.int .i64 0) := (hbw.cell (p := ⟨w.heap.size, 0, none⟩) (by simp)).trans (by simp [go_sem])
        have z1 : wr.cell? ⟨w.heap.size, 1, none⟩ = some (.int .i64 0) := (hbw.cell (p := ⟨w.heap.size, 1, none⟩) (by simp)).trans (by simp [go_sem])
        have z2 : wr.cell? ⟨w.heap.size, 2, none⟩ = some (.int .i64 0) := (hbw.cell (p := ⟨w.heap.size, 2, none⟩) (by simp)).trans (by simp [go_sem])
        have Hr : Hid (RowG wr (.slice a gs.length cap) gs ∧ ErrsAt wr) := ⟨H.out.1.below hbw', H.out.2.2.below hbw'⟩
        by_cases hlt : j < (rowsK k).length
        · have hlt' : (j : Int) < ((rowsK k).length : Int) := by omega
          have hr := List.getElem?_eq_getElem hlt
          have hdr : (rowsK k).drop j = (rowsK k)[j] :: (rowsK k).drop (j + 1) := List.drop_eq_getElem_cons hlt
          have hfl : ((rowsK k)[j]).form.length ≤ 1048576 := rows_form hk1 hk7 _ (List.getElem_mem hlt)
          generalize (rowsK k)[j] = r at *
          obtain ⟨q0, q1, q2, q3⟩ := HR.out.1 j r hr
          have p0 := (hbw'.cell (cell_lt q0)).trans q0
          have p1 := (hbw'.cell (cell_lt q1)).trans q1
          have p2 := (hbw'.cell (cell_lt q2)).trans q2
          have p3 := (hbw'.cell (cell_lt q3)).trans q3
          have Hd : Hid (tc gs (r :: (rowsK k).drop (j + 1)) at_ l = P) := by show _ = _; rw [← hdr]; exact HT.out
          have bA : Below wr.heap.size wr (wr.alloc (.cells #[.string (bs r.tag), .int .i64 r.least, .int .i64 r.most, .string (bs r.form)] 33)) := (Below.refl _ _).alloc (Nat.le_refl _) _
          clear hbw hbw' htc hdr hr q0 q1 q2 q3
          go_wp2_with fail
          generalize hWA : wr.alloc (.cells #[.string (bs r.tag), .int .i64 r.least, .int .i64 r.most, .string (bs r.form)] 33) = WA at *
          have x0 : WA.cell? ⟨wr.heap.size, 0, none⟩ = some (.string (bs r.tag)) := by rw [← hWA]; simp [go_sem]
          have x1 : WA.cell? ⟨wr.heap.size, 1, none⟩ = some (.int .i64 r.least) := by rw [← hWA]; simp [go_sem]
          have x2 : WA.cell? ⟨wr.heap.size, 2, none⟩ = some (.int .i64 r.most) := by rw [← hWA]; simp [go_sem]
          have x3 : WA.cell? ⟨wr.heap.size, 3, none⟩ = some (.string (bs r.form)) := by rw [← hWA]; simp [go_sem]
          have y0 := (bA.cell (cell_lt z0)).trans z0
          have y1 := (bA.cell (cell_lt z1)).trans z1
          have y2 := (bA.cell (cell_lt z2)).trans z2
          have hg0 := cell_lt x0
          have HrA : Hid (RowG WA (.slice a gs.length cap) gs ∧ ErrsAt WA ∧ Below wr.heap.size wr WA) := ⟨Hr.out.1.below bA, Hr.out.2.below bA, bA⟩
          clear hWA bA p0 p1 p2 p3 c1 z0 z1 z2
          have hat' : (at_ : Int) ≤ (gs.length : Int) := by omega
          have hcap' : (gs.length : Int) ≤ (cap : Int) := by omega
          have hcmx : cap ≤ 9223372036854775807 := by unfold maxLen at hcm; omega
          cases a with
          | none =>
            have hgz := HrA.out.1.none_len
            have hRd : RowG WA (.slice none (gs.length - at_) (cap - at_)) (gs.drop at_) := RowG.dropAll (by omega)
            have Hgz : Hid (gs.length = 0) := hgz
            clear hgz
            go_region_held3 (fun w' => w'.cell? ⟨wr.heap.size, 0, none⟩ = some (.string (bs r.tag)) ∧ w'.cell? ⟨wr.heap.size, 1, none⟩ = some (.int .i64 r.least) ∧ w'.cell? ⟨wr.heap.size, 2, none⟩ = some (.int .i64 r.most) ∧ w'.cell? ⟨wr.heap.size, 3, none⟩ = some (.string (bs r.form))) (go_keep) (first | (go_at_call 18; refine (take_any r _ (gs.drop at_) _ (hRd.below (Below.refl _ _).drew) (H.out.2.1.drop at_) (by rw [List.length_drop]; omega) hfl (HrA.out.2.1.below (Below.refl _ _).drew)).mono ?_; rintro e1 w3 ⟨rfl, hb3⟩; have k0 := (hb3.cell (p := ⟨wr.heap.size, 0, none⟩) hg0).trans (show WA.drew.cell? _ = _ from x0); have k1 := (hb3.cell (p := ⟨wr.heap.size, 1, none⟩) hg0).trans (show WA.drew.cell? _ = _ from x1); have k2 := (hb3.cell (p := ⟨wr.heap.size, 2, none⟩) hg0).trans (show WA.drew.cell? _ = _ from x2); have k3 := (hb3.cell (p := ⟨wr.heap.size, 3, none⟩) hg0).trans (show WA.drew.cell? _ = _ from x3)))
            obtain ⟨t1, t2, t3⟩ := tk_le r (gs.drop at_) 0
            rw [List.length_drop] at t2
            have Htc : Hid (tc gs (r :: (rowsK k).drop (j + 1)) at_ l = P) := Hd.out
            generalize hQ : tk r (gs.drop at_) 0 = Q at *
            obtain ⟨c, el⟩ := Q
            simp only at t1 t2 t3
            have HQ : Hid (tk r (gs.drop at_) 0 = (c, el)) := hQ
            clear hQ Hd
            have HW3 : Hid (Below w.heap.size w w3 ∧ Below (w.heap.size + 1) (w.alloc (.cells #[.int .i64 0, .int .i64 0, .int .i64 0] 27)) w3) := by
              have bb : Below wr.heap.size wr w3 := (HrA.out.2.2.trans ((Below.refl _ WA).drew.mono HrA.out.2.2.size)).trans (hb3.mono HrA.out.2.2.size)
              exact ⟨HB.out.1.trans (bb.mono HB.out.1.size), HB.out.2.trans (bb.mono hwz)⟩
            have v0 := (hb3.cell (p := ⟨w.heap.size, 0, none⟩) (show w.heap.size < WA.heap.size from cell_lt y0)).trans (show WA.drew.cell? ⟨w.heap.size, 0, none⟩ = _ from y0)
            have v1 := (hb3.cell (p := ⟨w.heap.size, 1, none⟩) (show w.heap.size < WA.heap.size from cell_lt y1)).trans (show WA.drew.cell? ⟨w.heap.size, 1, none⟩ = _ from y1)
            have v2 := (hb3.cell (p := ⟨w.heap.size, 2, none⟩) (show w.heap.size < WA.heap.size from cell_lt y2)).trans (show WA.drew.cell? ⟨w.heap.size, 2, none⟩ = _ from y2)
            have f3 : ∀ o, w3.frozen? ⟨w.heap.size, o, none⟩ = false := fun o => by rw [HW3.out.2.frozen (p := ⟨w.heap.size, o, none⟩) (by simp)]; exact fz_new ..
            clear hb3 x0 x1 x2 x3 y0 y1 y2
            go_wp2_with fail
            go_quiet (fail)
            have u0 : (w3.drewN nq).cell? ⟨w.heap.size, 0, none⟩ = some (.int .i64 0) := v0
            have u1 : (w3.drewN nq).cell? ⟨w.heap.size, 1, none⟩ = some (.int .i64 0) := v1
            have u2 : (w3.drewN nq).cell? ⟨w.heap.size, 2, none⟩ = some (.int .i64 0) := v2
            have uf : ∀ o, (w3.drewN nq).frozen? ⟨w.heap.size, o, none⟩ = false := f3
            have e1 : (w3.drewN nq).cell? ⟨wr.heap.size, 1, none⟩ = some (.int .i64 r.least) := k1
            have HW4 : Hid (Below w.heap.size w (w3.drewN nq) ∧ Below (w.heap.size + 1) (w.alloc (.cells #[.int .i64 0, .int .i64 0, .int .i64 0] 27)) (w3.drewN nq)) := ⟨below_drewN HW3.out.1 _, below_drewN HW3.out.2 _⟩
            generalize w3.drewN nq = w4 at *
            clear v0 v1 v2 f3 k0 k1 k2 k3
            by_cases hel : 0 ≤ el
            · have HPk : Hid (P = ((at_ : Int) + (c : Int), el, 3)) := by show _ = _; rw [← Htc.out, tc, HQ.out, if_pos hel]
              go_wp2
              exact bodyPost_ret (v := tcVal ((at_ : Int) + (c : Int), el, 3)) (by simp [results, Tryd.results6, go_sem, tcVal, u0, u1, u2]) rfl ⟨by rw [HPk.out], ((HW4.out.1.setCell (show w.heap.size ≤ w.heap.size from Nat.le_refl _) _).setCell (show w.heap.size ≤ w.heap.size from Nat.le_refl _) _).setCell (show w.heap.size ≤ w.heap.size from Nat.le_refl _) _⟩
            · have hel' : el < 0 := by omega
              by_cases hle : (c : Int) < r.least
              · have HPk : Hid (P = ((at_ : Int) + (c : Int), 0, 4)) := by show _ = _; rw [← Htc.out, tc, HQ.out, if_neg hel, if_pos hle]
                go_wp2
                exact bodyPost_ret (v := tcVal ((at_ : Int) + (c : Int), 0, 4)) (by simp [results, Tryd.results6, go_sem, tcVal, u0, u1, u2]) rfl ⟨by rw [HPk.out], ((HW4.out.1.setCell (show w.heap.size ≤ w.heap.size from Nat.le_refl _) _).setCell (show w.heap.size ≤ w.heap.size from Nat.le_refl _) _).setCell (show w.heap.size ≤ w.heap.size from Nat.le_refl _) _⟩
              · have hle' : r.least ≤ (c : Int) := by omega
                have HPk : Hid (tc gs ((rowsK k).drop (j + 1)) (at_ + c) (bs r.tag) = P) := by show _ = _; rw [← Htc.out]; conv => rhs; rw [tc, HQ.out, if_neg hel, if_neg hle]
                go_wp2
                go_roundw
                case rel => exact ⟨j + 1, at_ + c, bs r.tag, by go_num, by go_num, rfl, by omega, by omega, HPk.out, HW4.out.2⟩
                case measure => simp [intOf]; omega
          | some ad =>
            by_cases hce : cap = at_
            · obtain rfl : at_ = gs.length := by omega
              subst hce
              clear hat hcap hat' hcap'
              go_region_held3 (fun w' => w'.cell? ⟨wr.heap.size, 0, none⟩ = some (.string (bs r.tag)) ∧ w'.cell? ⟨wr.heap.size, 1, none⟩ = some (.int .i64 r.least) ∧ w'.cell? ⟨wr.heap.size, 2, none⟩ = some (.int .i64 r.most) ∧ w'.cell? ⟨wr.heap.size, 3, none⟩ = some (.string (bs r.form))) (go_keep) (first | (go_at_call 18; refine (take_any r _ [] _ (RowG.nil _ _ _) ⟨by simp, fun i g h => by simp at h⟩ (by simp) hfl (HrA.out.2.1.below (Below.refl _ _).drew)).mono ?_; rintro e1 w3 ⟨rfl, hb3⟩; rw [tk_nil]; have k0 := (hb3.cell (p := ⟨wr.heap.size, 0, none⟩) hg0).trans (show WA.drew.cell? _ = _ from x0); have k1 := (hb3.cell (p := ⟨wr.heap.size, 1, none⟩) hg0).trans (show WA.drew.cell? _ = _ from x1); have k2 := (hb3.cell (p := ⟨wr.heap.size, 2, none⟩) hg0).trans (show WA.drew.cell? _ = _ from x2); have k3 := (hb3.cell (p := ⟨wr.heap.size, 3, none⟩) hg0).trans (show WA.drew.cell? _ = _ from x3)))
              have HQ : Hid (tk r (gs.drop gs.length) 0 = (0, -1)) := by show _ = _; rw [List.drop_length]; rfl
              have HW3 : Hid (Below w.heap.size w w3 ∧ Below (w.heap.size + 1) (w.alloc (.cells #[.int .i64 0, .int .i64 0, .int .i64 0] 27)) w3) := by
                have bb : Below wr.heap.size wr w3 := (HrA.out.2.2.trans ((Below.refl _ WA).drew.mono HrA.out.2.2.size)).trans (hb3.mono HrA.out.2.2.size)
                exact ⟨HB.out.1.trans (bb.mono HB.out.1.size), HB.out.2.trans (bb.mono hwz)⟩
              have v0 := (hb3.cell (p := ⟨w.heap.size, 0, none⟩) (show w.heap.size < WA.heap.size from cell_lt y0)).trans (show WA.drew.cell? ⟨w.heap.size, 0, none⟩ = _ from y0)
              have v1 := (hb3.cell (p := ⟨w.heap.size, 1, none⟩) (show w.heap.size < WA.heap.size from cell_lt y1)).trans (show WA.drew.cell? ⟨w.heap.size, 1, none⟩ = _ from y1)
              have v2 := (hb3.cell (p := ⟨w.heap.size, 2, none⟩) (show w.heap.size < WA.heap.size from cell_lt y2)).trans (show WA.drew.cell? ⟨w.heap.size, 2, none⟩ = _ from y2)
              have f3 : ∀ o, w3.frozen? ⟨w.heap.size, o, none⟩ = false := fun o => by rw [HW3.out.2.frozen (p := ⟨w.heap.size, o, none⟩) (by simp)]; exact fz_new ..
              clear hb3 x0 x1 x2 x3 y0 y1 y2
              go_wp2_with fail
              go_quiet (fail)
              have u0 : (w3.drewN nq).cell? ⟨w.heap.size, 0, none⟩ = some (.int .i64 0) := v0
              have u1 : (w3.drewN nq).cell? ⟨w.heap.size, 1, none⟩ = some (.int .i64 0) := v1
              have u2 : (w3.drewN nq).cell? ⟨w.heap.size, 2, none⟩ = some (.int .i64 0) := v2
              have uf : ∀ o, (w3.drewN nq).frozen? ⟨w.heap.size, o, none⟩ = false := f3
              have e1 : (w3.drewN nq).cell? ⟨wr.heap.size, 1, none⟩ = some (.int .i64 r.least) := k1
              have HW4 : Hid (Below w.heap.size w (w3.drewN nq) ∧ Below (w.heap.size + 1) (w.alloc (.cells #[.int .i64 0, .int .i64 0, .int .i64 0] 27)) (w3.drewN nq)) := ⟨below_drewN HW3.out.1 _, below_drewN HW3.out.2 _⟩
              generalize w3.drewN nq = w4 at *
              clear v0 v1 v2 f3 k0 k1 k2 k3
              by_cases hle : (0 : Int) < r.least
              · have HPk : Hid (P = ((gs.length : Int), 0, 4)) := by show _ = _; rw [← Hd.out, tc, HQ.out, if_neg (by simp), if_pos (show (((0, -1) : Nat × Int).1 : Int) < r.least from hle)]; simp
                go_wp2
                exact bodyPost_ret (v := tcVal ((gs.length : Int), 0, 4)) (by simp [results, Tryd.results6, go_sem, tcVal, u0, u1, u2]) rfl ⟨by rw [HPk.out], ((HW4.out.1.setCell (show w.heap.size ≤ w.heap.size from Nat.le_refl _) _).setCell (show w.heap.size ≤ w.heap.size from Nat.le_refl _) _).setCell (show w.heap.size ≤ w.heap.size from Nat.le_refl _) _⟩
              · have hle' : r.least ≤ 0 := by omega
                have HPk : Hid (tc gs ((rowsK k).drop (j + 1)) gs.length (bs r.tag) = P) := by
                  have e9 : tc gs (r :: (rowsK k).drop (j + 1)) gs.length l = tc gs ((rowsK k).drop (j + 1)) gs.length (bs r.tag) := by
                    rw [tc, HQ.out, if_neg (by simp), if_neg (show ¬ (((0, -1) : Nat × Int).1 : Int) < r.least from hle)]
                    rfl
                  show _ = _
                  rw [← Hd.out, e9]
                go_wp2
                go_roundw
                case rel => exact ⟨j + 1, gs.length, bs r.tag, by go_num, rfl, rfl, by omega, Nat.le_refl _, HPk.out, HW4.out.2⟩
                case measure => simp [intOf]; omega
            · have hRd := HrA.out.1.drop hat hcap
              rw [if_neg hce] at hRd
              have hce' : ¬ cap = at_ := hce
              go_region_held3 (fun w' => w'.cell? ⟨wr.heap.size, 0, none⟩ = some (.string (bs r.tag)) ∧ w'.cell? ⟨wr.heap.size, 1, none⟩ = some (.int .i64 r.least) ∧ w'.cell? ⟨wr.heap.size, 2, none⟩ = some (.int .i64 r.most) ∧ w'.cell? ⟨wr.heap.size, 3, none⟩ = some (.string (bs r.form))) (go_keep) (first | (go_at_call 18; refine (take_any r _ (gs.drop at_) _ (hRd.below (Below.refl _ _).drew) (H.out.2.1.drop at_) (by rw [List.length_drop]; omega) hfl (HrA.out.2.1.below (Below.refl _ _).drew)).mono ?_; rintro e1 w3 ⟨rfl, hb3⟩; have k0 := (hb3.cell (p := ⟨wr.heap.size, 0, none⟩) hg0).trans (show WA.drew.cell? _ = _ from x0); have k1 := (hb3.cell (p := ⟨wr.heap.size, 1, none⟩) hg0).trans (show WA.drew.cell? _ = _ from x1); have k2 := (hb3.cell (p := ⟨wr.heap.size, 2, none⟩) hg0).trans (show WA.drew.cell? _ = _ from x2); have k3 := (hb3.cell (p := ⟨wr.heap.size, 3, none⟩) hg0).trans (show WA.drew.cell? _ = _ from x3)))
              obtain ⟨t1, t2, t3⟩ := tk_le r (gs.drop at_) 0
              rw [List.length_drop] at t2
              have Htc : Hid (tc gs (r :: (rowsK k).drop (j + 1)) at_ l = P) := Hd.out
              generalize hQ : tk r (gs.drop at_) 0 = Q at *
              obtain ⟨c, el⟩ := Q
              simp only at t1 t2 t3
              have HQ : Hid (tk r (gs.drop at_) 0 = (c, el)) := hQ
              clear hQ Hd
              have HW3 : Hid (Below w.heap.size w w3 ∧ Below (w.heap.size + 1) (w.alloc (.cells #[.int .i64 0, .int .i64 0, .int .i64 0] 27)) w3) := by
                have bb : Below wr.heap.size wr w3 := (HrA.out.2.2.trans ((Below.refl _ WA).drew.mono HrA.out.2.2.size)).trans (hb3.mono HrA.out.2.2.size)
                exact ⟨HB.out.1.trans (bb.mono HB.out.1.size), HB.out.2.trans (bb.mono hwz)⟩
              have v0 := (hb3.cell (p := ⟨w.heap.size, 0, none⟩) (show w.heap.size < WA.heap.size from cell_lt y0)).trans (show WA.drew.cell? ⟨w.heap.size, 0, none⟩ = _ from y0)
              have v1 := (hb3.cell (p := ⟨w.heap.size, 1, none⟩) (show w.heap.size < WA.heap.size from cell_lt y1)).trans (show WA.drew.cell? ⟨w.heap.size, 1, none⟩ = _ from y1)
              have v2 := (hb3.cell (p := ⟨w.heap.size, 2, none⟩) (show w.heap.size < WA.heap.size from cell_lt y2)).trans (show WA.drew.cell? ⟨w.heap.size, 2, none⟩ = _ from y2)
              have f3 : ∀ o, w3.frozen? ⟨w.heap.size, o, none⟩ = false := fun o => by rw [HW3.out.2.frozen (p := ⟨w.heap.size, o, none⟩) (by simp)]; exact fz_new ..
              clear hb3 x0 x1 x2 x3 y0 y1 y2
              go_wp2_with fail
              go_quiet (fail)
              have u0 : (w3.drewN nq).cell? ⟨w.heap.size, 0, none⟩ = some (.int .i64 0) := v0
              have u1 : (w3.drewN nq).cell? ⟨w.heap.size, 1, none⟩ = some (.int .i64 0) := v1
              have u2 : (w3.drewN nq).cell? ⟨w.heap.size, 2, none⟩ = some (.int .i64 0) := v2
              have uf : ∀ o, (w3.drewN nq).frozen? ⟨w.heap.size, o, none⟩ = false := f3
              have e1 : (w3.drewN nq).cell? ⟨wr.heap.size, 1, none⟩ = some (.int .i64 r.least) := k1
              have HW4 : Hid (Below w.heap.size w (w3.drewN nq) ∧ Below (w.heap.size + 1) (w.alloc (.cells #[.int .i64 0, .int .i64 0, .int .i64 0] 27)) (w3.drewN nq)) := ⟨below_drewN HW3.out.1 _, below_drewN HW3.out.2 _⟩
              generalize w3.drewN nq = w4 at *
              clear v0 v1 v2 f3 k0 k1 k2 k3
              by_cases hel : 0 ≤ el
              · have HPk : Hid (P = ((at_ : Int) + (c : Int), el, 3)) := by show _ = _; rw [← Htc.out, tc, HQ.out, if_pos hel]
                go_wp2
                exact bodyPost_ret (v := tcVal ((at_ : Int) + (c : Int), el, 3)) (by simp [results, Tryd.results6, go_sem, tcVal, u0, u1, u2]) rfl ⟨by rw [HPk.out], ((HW4.out.1.setCell (show w.heap.size ≤ w.heap.size from Nat.le_refl _) _).setCell (show w.heap.size ≤ w.heap.size from Nat.le_refl _) _).setCell (show w.heap.size ≤ w.heap.size from Nat.le_refl _) _⟩
              · have hel' : el < 0 := by omega
                by_cases hle : (c : Int) < r.least
                · have HPk : Hid (P = ((at_ : Int) + (c : Int), 0, 4)) := by show _ = _; rw [← Htc.out, tc, HQ.out, if_neg hel, if_pos hle]
                  go_wp2
                  exact bodyPost_ret (v := tcVal ((at_ : Int) + (c : Int), 0, 4)) (by simp [results, Tryd.results6, go_sem, tcVal, u0, u1, u2]) rfl ⟨by rw [HPk.out], ((HW4.out.1.setCell (show w.heap.size ≤ w.heap.size from Nat.le_refl _) _).setCell (show w.heap.size ≤ w.heap.size from Nat.le_refl _) _).setCell (show w.heap.size ≤ w.heap.size from Nat.le_refl _) _⟩
                · have hle' : r.least ≤ (c : Int) := by omega
                  have HPk : Hid (tc gs ((rowsK k).drop (j + 1)) (at_ + c) (bs r.tag) = P) := by show _ = _; rw [← Htc.out]; conv => rhs; rw [tc, HQ.out, if_neg hel, if_neg hle]
                  go_wp2
                  go_roundw
                  case rel => exact ⟨j + 1, at_ + c, bs r.tag, by go_num, by go_num, rfl, by omega, by omega, HPk.out, HW4.out.2⟩
                  case measure => simp [intOf]; omega
        · obtain rfl : j = (rowsK k).length := by omega
          have HE : Hid (tc gs [] at_ l = P) := by show _ = _; rw [← HT.out, List.drop_length]
          have hf : ∀ o, wr.frozen? ⟨w.heap.size, o, none⟩ = false := fun o => by rw [hbw.frozen (p := ⟨w.heap.size, o, none⟩) (by simp)]; exact fz_new ..
          clear hbw hbw' htc hlt HT c1
          by_cases hae : at_ = gs.length
          · have hae' : ((at_ : Int) == (gs.length : Int)) = true := by rw [beq_iff_eq]; omega
            have HPk : Hid (P = (0, 0, 0)) := by show _ = _; rw [← HE.out, tc, if_pos hae]
            clear hae
            go_wp2
            exact bodyPost_ret (v := tcVal (0, 0, 0)) (by simp [results, Tryd.results6, go_sem, tcVal, z0, z1, z2]) rfl ⟨by rw [HPk.out], by first | exact ((HB.out.1.setCell (show w.heap.size ≤ w.heap.size from Nat.le_refl _) _).setCell (show w.heap.size ≤ w.heap.size from Nat.le_refl _) _).setCell (show w.heap.size ≤ w.heap.size from Nat.le_refl _) _ | exact HB.out.1⟩
          · have hae' : ((at_ : Int) == (gs.length : Int)) = false := by rw [beq_eq_false_iff_ne]; omega
            have hlt : at_ < gs.length := by omega
            have hlt' : (at_ : Int) < (gs.length : Int) := by omega
            obtain ⟨b1, o1, c2, g, u, hv, hg, hc, _, _, hgz⟩ := Hr.out.1.at hlt
            simp only [Value.slice.injEq, true_and] at hv
            obtain ⟨rfl, rfl⟩ := hv
            have Hg : Hid ((gs[at_]?.map (·.1)).getD ⟨#[]⟩ = g.1) := by show _ = _; rw [hg]; rfl
            clear hg
            by_cases ht : g.1 = l
            · have ht' : (g.1.toList == l.toList) = true := by rw [ht]; simp
              have HPk : Hid (P = ((at_ : Int), 0, 7)) := by show _ = _; rw [← HE.out, tc, if_neg hae, if_pos (by rw [Hg.out]; exact ht)]
              clear ht hae
              go_wp2
              exact bodyPost_ret (v := tcVal ((at_ : Int), 0, 7)) (by simp [results, Tryd.results6, go_sem, tcVal, z0, z1, z2]) rfl ⟨by rw [HPk.out], by first | exact ((HB.out.1.setCell (show w.heap.size ≤ w.heap.size from Nat.le_refl _) _).setCell (show w.heap.size ≤ w.heap.size from Nat.le_refl _) _).setCell (show w.heap.size ≤ w.heap.size from Nat.le_refl _) _ | exact HB.out.1⟩
            · have ht' : (g.1.toList == l.toList) = false := by
                rw [beq_eq_false_iff_ne]
                intro e
                apply ht
                rw [Lib.toList_data, Lib.toList_data] at e
                exact ByteArray.ext (Array.toList_inj.1 e)
              have HPk : Hid (P = ((at_ : Int), 0, 3)) := by show _ = _; rw [← HE.out, tc, if_neg hae, if_neg (by rw [Hg.out]; exact ht)]
              clear ht hae
              go_wp2
              exact bodyPost_ret (v := tcVal ((at_ : Int), 0, 3)) (by simp [results, Tryd.results6, go_sem, tcVal, z0, z1, z2]) rfl ⟨by rw [HPk.out], by first | exact ((HB.out.1.setCell (show w.heap.size ≤ w.heap.size from Nat.le_refl _) _).setCell (show w.heap.size ≤ w.heap.size from Nat.le_refl _) _).setCell (show w.heap.size ≤ w.heap.size from Nat.le_refl _) _ | exact HB.out.1⟩
    · rw [tcV_no hl hk]
      have hB : kindB n = false := by simp [kindB]; omega
      clear h
      go_enter Tryd.func6, Tryd.ntmps6
      go_wp2_with (go_at_call 17; refine (isKind_any _ _).mono ?_; rintro e w1 ⟨rfl, rfl⟩; rw [hB]; try dsimp only)
      exact bodyPost_ret (v := tcVal (0, 0, 1)) (by simp [results, Tryd.results6, go_sem, tcVal]) rfl ⟨rfl, by first | exact b0 | exact (Below.refl _ _).alloc (Nat.le_refl _) _⟩
end Go.Proofs.YtphgheojfnlgjaaDoor
