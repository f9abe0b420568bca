/- The laws' helpers for rows: eqRowS tells true of two lists of the same rows, markRowS writes marks into a list of the call's own, heldRowS finds them there. -/
import Derived.Test.YtpmghkkkiniblaaDoorTabRow
import Derived.Test.YtpmghkkkiniblaaDoorMarkT
import Derived.Deep.RegionHeld3
namespace Go.Proofs.YtpmghkkkiniblaaDoor
open Go.ChangeShapes Go.WideShapes Go.ChangeAt Go.RowKit
set_option maxHeartbeats 1000000 in
theorem eqRows_same (v v' : Value) (rs : List TRow) (w : World) (hl : rs.length ≤ 1000) (h : SlT w v rs) (h' : SlT w v' rs) :
    Calls Tryd.prog 8 #[v, v'] w fun e w' => e = .returned (.bool true) ∧ Below w.heap.size w w' := by
  obtain ⟨A, C, rfl, hA⟩ := h
  obtain ⟨A', C', rfl, hA'⟩ := h'
  have H : Hid ((0 < rs.length → ∃ b off, A = some ⟨b, off, none⟩ ∧ RowsAt w b off rs) ∧ (0 < rs.length → ∃ b off, A' = some ⟨b, off, none⟩ ∧ RowsAt w b off rs)) := ⟨hA, hA'⟩
  clear hA hA'
  go_enter Tryd.func8, Tryd.ntmps8
  go_wp2
  go_loopw [5] (fun i wr => ∃ k : Nat, k ≤ rs.length ∧ i = .int .i64 k ∧ Below w.heap.size w wr) (fun i _ => rs.length - (intOf i).toNat)
  case atStart => exact ⟨0, Nat.zero_le _, rfl, Below.refl _ _⟩
  case round =>
    obtain ⟨k, hk, rfl, hb⟩ := hrel
    by_cases hlt : k < rs.length
    · have hlt' : (k : Int) < (rs.length : Int) := by omega
      obtain ⟨b, off, rfl, hR⟩ := H.out.1 (by omega)
      obtain ⟨b', off', rfl, hR'⟩ := H.out.2 (by omega)
      have hr := List.getElem?_eq_getElem hlt
      generalize rs[k] = r at hr
      obtain ⟨r0, r1, r2, r3⟩ := hR k _ hr
      obtain ⟨s0, s1, s2, s3⟩ := hR' k _ hr
      have lb := World.block_lt_of_cell? _ _ r0
      have lb' := World.block_lt_of_cell? _ _ s0
      have c0 := (hb.cell (p := ⟨b, off + k * 4, none⟩) lb).trans r0
      have c1 := (hb.cell (p := ⟨b, off + k * 4 + 1, none⟩) lb).trans r1
      have c2 := (hb.cell (p := ⟨b, off + k * 4 + 2, none⟩) lb).trans r2
      have c3 := (hb.cell (p := ⟨b, off + k * 4 + 3, none⟩) lb).trans r3
      have d0 := (hb.cell (p := ⟨b', off' + k * 4, none⟩) lb').trans s0
      have d1 := (hb.cell (p := ⟨b', off' + k * 4 + 1, none⟩) lb').trans s1
      have d2 := (hb.cell (p := ⟨b', off' + k * 4 + 2, none⟩) lb').trans s2
      have d3 := (hb.cell (p := ⟨b', off' + k * 4 + 3, none⟩) lb').trans s3
      have hg : b < wr.heap.size := World.block_lt_of_cell? _ _ c0
      have hg' : b' < wr.heap.size := World.block_lt_of_cell? _ _ d0
      have HB : Hid (Below w.heap.size w wr) := hb
      clear hb hR hR' r0 r1 r2 r3 s0 s1 s2 s3
      go_wp2_with fail
      go_region_held3 (fun w' => w'.cell? ⟨b, off + k * 4, none⟩ = some (.string (bs r.tag)) ∧ w'.cell? ⟨b, off + k * 4 + 1, none⟩ = some (.int .i64 r.least) ∧ w'.cell? ⟨b, off + k * 4 + 2, none⟩ = some (.int .i64 r.most) ∧ w'.cell? ⟨b, off + k * 4 + 3, none⟩ = some (.string (bs r.form)) ∧ w'.cell? ⟨b', off' + k * 4, none⟩ = some (.string (bs r.tag)) ∧ w'.cell? ⟨b', off' + k * 4 + 1, none⟩ = some (.int .i64 r.least) ∧ w'.cell? ⟨b', off' + k * 4 + 2, none⟩ = some (.int .i64 r.most) ∧ w'.cell? ⟨b', off' + k * 4 + 3, none⟩ = some (.string (bs r.form))) (go_keep)
        (first | (go_at_call 17; refine (eqRow_same r _).mono ?_; rintro e w3 ⟨rfl, hb3⟩; have c0x := (hb3.cell (p := ⟨b, off + k * 4, none⟩) hg).trans (show wr.drew.cell? ⟨b, off + k * 4, none⟩ = _ from c0); have c1x := (hb3.cell (p := ⟨b, off + k * 4 + 1, none⟩) hg).trans (show wr.drew.cell? ⟨b, off + k * 4 + 1, none⟩ = _ from c1); have c2x := (hb3.cell (p := ⟨b, off + k * 4 + 2, none⟩) hg).trans (show wr.drew.cell? ⟨b, off + k * 4 + 2, none⟩ = _ from c2); have c3x := (hb3.cell (p := ⟨b, off + k * 4 + 3, none⟩) hg).trans (show wr.drew.cell? ⟨b, off + k * 4 + 3, none⟩ = _ from c3); have d0x := (hb3.cell (p := ⟨b', off' + k * 4, none⟩) hg').trans (show wr.drew.cell? ⟨b', off' + k * 4, none⟩ = _ from d0); have d1x := (hb3.cell (p := ⟨b', off' + k * 4 + 1, none⟩) hg').trans (show wr.drew.cell? ⟨b', off' + k * 4 + 1, none⟩ = _ from d1); have d2x := (hb3.cell (p := ⟨b', off' + k * 4 + 2, none⟩) hg').trans (show wr.drew.cell? ⟨b', off' + k * 4 + 2, none⟩ = _ from d2); have d3x := (hb3.cell (p := ⟨b', off' + k * 4 + 3, none⟩) hg').trans (show wr.drew.cell? ⟨b', off' + k * 4 + 3, none⟩ = _ from d3)))
      go_wp2
      go_roundw
      case rel => exact ⟨k + 1, by omega, by go_num, HB.out.drew.trans (hb3.mono (show w.heap.size ≤ wr.heap.size from HB.out.size))⟩
      case measure => simp [intOf]; omega
    · have hge : (rs.length : Int) ≤ (k : Int) := by omega
      have HB : Hid (Below w.heap.size w wr) := hb
      clear hb
      go_wp2
      go_ret
      exact ⟨rfl, HB.out⟩
/-- The four cells of a row hold the marks from k on. -/
def MkRow (w : World) (g o k : Nat) : Prop :=
  w.cell? ⟨g, o, none⟩ = some (.string (mt k)) ∧ w.cell? ⟨g, o + 1, none⟩ = some (.int .i64 ((k + 1 : Nat) : Int)) ∧ w.cell? ⟨g, o + 2, none⟩ = some (.int .i64 ((k + 2 : Nat) : Int)) ∧ w.cell? ⟨g, o + 3, none⟩ = some (.string (mt (k + 3)))
theorem MkRow.keep {w w' : World} {g o k B : Nat} (h : MkRow w g o k) (hk : Keep B w w') (hB : g ≠ B) : MkRow w' g o k :=
  ⟨hk.cell h.1 hB, hk.cell h.2.1 hB, hk.cell h.2.2.1 hB, hk.cell h.2.2.2 hB⟩
theorem MkRow.below {w w' : World} {g o k : Nat} (h : MkRow w g o k) (hb : Below w.heap.size w w') : MkRow w' g o k := h.keep (Keep.of_below (B := g + 1) hb) (by omega)
theorem MkRow.other {w : World} {g o k o' : Nat} {v : Value} (h : MkRow w g o k) (hn : o' < o ∨ o + 4 ≤ o') : MkRow (w.setCell ⟨g, o', none⟩ v) g o k := by
  obtain ⟨a0, a1, a2, a3⟩ := h
  refine ⟨?_, ?_, ?_, ?_⟩
  all_goals
    rw [World.cell?_setCell_other _ _ _ _ (by simp <;> omega)]
    assumption
/-- A list of the call's own in block g. -/
structure MayT (w : World) (g : Nat) (A : Option Addr) (n : Nat) : Prop where
  at_ : 0 < n → A = some ⟨g, 0, none⟩
  some_ : ∀ j, j < n * 4 → (w.cell? ⟨g, j, none⟩).isSome = true
  fz : 0 < n → ∀ o, w.frozen? ⟨g, o, none⟩ = false
theorem MayT.below {w w' : World} {g : Nat} {A : Option Addr} {n : Nat} (h : MayT w g A n) (hb : Below w.heap.size w w') : MayT w' g A n := by
  refine ⟨h.at_, fun j hj => ?_, fun h0 o => ?_⟩
  · obtain ⟨u, hu⟩ := Option.isSome_iff_exists.1 (h.some_ j hj)
    rw [hb.cell (p := ⟨g, j, none⟩) (cell_lt hu), hu]
    rfl
  · obtain ⟨u, hu⟩ := Option.isSome_iff_exists.1 (h.some_ 0 (by omega))
    exact (hb.frozen (p := ⟨g, o, none⟩) (cell_lt hu)).trans (h.fz h0 o)
theorem MayT.set {w : World} {g : Nat} {A : Option Addr} {n : Nat} (h : MayT w g A n) (o : Nat) (v : Value) : MayT (w.setCell ⟨g, o, none⟩ v) g A n := by
  refine ⟨h.at_, fun j hj => ?_, fun h0 o' => by rw [World.frozen?_setCell]; exact h.fz h0 o'⟩
  by_cases e : j = o
  · subst e
    rw [World.cell?_setCell_same' _ _ _ (h.some_ j hj)]
    rfl
  · rw [World.cell?_setCell_other _ _ _ _ (by simp <;> omega)]
    exact h.some_ j hj
theorem OwnT.may {n0 : Nat} {w : World} {v : Value} {rs : List TRow} (h : OwnT n0 w v rs) : ∃ g A C, v = .slice A rs.length C ∧ MayT w g A rs.length ∧ (0 < rs.length → n0 ≤ g) := by
  rcases h.2 with ⟨rfl, e⟩ | ⟨g, cap, cur, rfl, hb, hgb, hc1, _, hsz, htk⟩
  · exact ⟨0, none, 0, by rw [e], ⟨fun h => by omega, fun j hj => by omega, fun h => by omega⟩, fun h => by omega⟩
  · refine ⟨g, _, cap, rfl, ⟨fun _ => rfl, fun j hj => ?_, fun _ o => by simp [World.frozen?, hgb]⟩, fun _ => hb⟩
    have hj2 : j < cur.size := by rw [hsz]; omega
    simp [World.cell?, hgb, hj2]
theorem mark_mid {w w3 w4 : World} {g k k0 n : Nat} {A : Option Addr} {v0 v1 v2 : Value} (hk : k < n) (hm : ∀ i, i < k → MkRow w3 g (i * 4) (k0 + i * 4)) (hM : MayT w3 g A n) (hK : Keep g w w3)
    (hb : Below (((w3.setCell ⟨g, k * 4, none⟩ v0).setCell ⟨g, k * 4 + 1, none⟩ v1).setCell ⟨g, k * 4 + 2, none⟩ v2).heap.size (((w3.setCell ⟨g, k * 4, none⟩ v0).setCell ⟨g, k * 4 + 1, none⟩ v1).setCell ⟨g, k * 4 + 2, none⟩ v2) w4) :
    w4.cell? ⟨g, k * 4, none⟩ = some v0 ∧ w4.cell? ⟨g, k * 4 + 1, none⟩ = some v1 ∧ w4.cell? ⟨g, k * 4 + 2, none⟩ = some v2 ∧ (∀ i, i < k → MkRow w4 g (i * 4) (k0 + i * 4)) ∧ MayT w4 g A n ∧ Keep g w w4 := by
  have h1 := hM.set (k * 4) v0
  have h2 := h1.set (k * 4 + 1) v1
  have h3 := h2.set (k * 4 + 2) v2
  have c0 : (((w3.setCell ⟨g, k * 4, none⟩ v0).setCell ⟨g, k * 4 + 1, none⟩ v1).setCell ⟨g, k * 4 + 2, none⟩ v2).cell? ⟨g, k * 4, none⟩ = some v0 := by
    rw [World.cell?_setCell_other _ _ _ _ (by simp), World.cell?_setCell_other _ _ _ _ (by simp)]
    exact World.cell?_setCell_same' _ _ _ (hM.some_ _ (by omega))
  have c1 : (((w3.setCell ⟨g, k * 4, none⟩ v0).setCell ⟨g, k * 4 + 1, none⟩ v1).setCell ⟨g, k * 4 + 2, none⟩ v2).cell? ⟨g, k * 4 + 1, none⟩ = some v1 := by
    rw [World.cell?_setCell_other _ _ _ _ (by simp)]
    exact World.cell?_setCell_same' _ _ _ (h1.some_ _ (by omega))
  have c2 : (((w3.setCell ⟨g, k * 4, none⟩ v0).setCell ⟨g, k * 4 + 1, none⟩ v1).setCell ⟨g, k * 4 + 2, none⟩ v2).cell? ⟨g, k * 4 + 2, none⟩ = some v2 :=
    World.cell?_setCell_same' _ _ _ (h2.some_ _ (by omega))
  have hK3 := ((hK.setCell (k * 4) v0).setCell (k * 4 + 1) v1).setCell (k * 4 + 2) v2
  have hm3 : ∀ i, i < k → MkRow (((w3.setCell ⟨g, k * 4, none⟩ v0).setCell ⟨g, k * 4 + 1, none⟩ v1).setCell ⟨g, k * 4 + 2, none⟩ v2) g (i * 4) (k0 + i * 4) := fun i hi => (((hm i hi).other (.inr (by omega))).other (.inr (by omega))).other (.inr (by omega))
  generalize ((w3.setCell ⟨g, k * 4, none⟩ v0).setCell ⟨g, k * 4 + 1, none⟩ v1).setCell ⟨g, k * 4 + 2, none⟩ v2 = S at *
  exact ⟨(hb.cell (p := ⟨g, k * 4, none⟩) (cell_lt c0)).trans c0, (hb.cell (p := ⟨g, k * 4 + 1, none⟩) (cell_lt c1)).trans c1, (hb.cell (p := ⟨g, k * 4 + 2, none⟩) (cell_lt c2)).trans c2, fun i hi => (hm3 i hi).below hb, h3.below hb, hK3.trans (Keep.of_below hb)⟩
set_option maxHeartbeats 1000000 in
theorem markRows_any (A : Option Addr) (C g n k0 : Nat) (w : World) (hn : n ≤ 1000) (hk0 : 0 < k0) (hk1 : k0 ≤ 1000) (h : MayT w g A n) :
    Calls Tryd.prog 9 #[.slice A n C, .int .i64 k0] w fun e w' => e = .returned (.int .i64 ((k0 + n * 4 : Nat) : Int)) ∧ (∀ i, i < n → MkRow w' g (i * 4) (k0 + i * 4)) ∧ MayT w' g A n ∧ ∀ B, (0 < n → B = g) → Keep B w w' := by
  have HT : Hid (MayT w g A n) := h
  clear h
  go_enter Tryd.func9, Tryd.ntmps9
  go_wp2
  go_loopw [1, 5] (fun kv i wr => ∃ k : Nat, k ≤ n ∧ i = .int .i64 k ∧ kv = .int .i64 ((k0 + k * 4 : Nat) : Int) ∧ (∀ i, i < k → MkRow wr g (i * 4) (k0 + i * 4)) ∧ MayT wr g A n ∧ ∀ B, (0 < n → B = g) → Keep B w wr) (fun _ i _ => n - (intOf i).toNat)
  case atStart => exact ⟨0, Nat.zero_le _, rfl, by simp, fun i hi => by omega, HT.out, fun _ _ => Keep.refl _ _⟩
  case round =>
    obtain ⟨k, hk, rfl, rfl, hm, hM, hK⟩ := hrel
    by_cases hlt : k < n
    · have hlt' : (k : Int) < (n : Int) := by omega
      have e1 := hM.at_ (by omega)
      subst e1
      have HK : Hid ((∀ i, i < k → MkRow wr g (i * 4) (k0 + i * 4)) ∧ MayT wr g (some ⟨g, 0, none⟩) n ∧ ∀ B, (0 < n → B = g) → Keep B w wr) := ⟨hm, hM, hK⟩
      clear hm hM hK
      go_wp2_with fail
      refine (markText_any (k0 + k * 4) _ (by omega) (by omega)).mono ?_
      rintro e w3 ⟨rfl, hb3⟩
      obtain ⟨m1, m2, m3⟩ := HK.out
      have hM3 := m2.below hb3
      obtain ⟨u0, hu0⟩ := Option.isSome_iff_exists.1 (hM3.some_ (k * 4) (by omega))
      obtain ⟨u1, hu1⟩ := Option.isSome_iff_exists.1 (hM3.some_ (k * 4 + 1) (by omega))
      obtain ⟨u2, hu2⟩ := Option.isSome_iff_exists.1 (hM3.some_ (k * 4 + 2) (by omega))
      obtain ⟨u3, hu3⟩ := Option.isSome_iff_exists.1 (hM3.some_ (k * 4 + 3) (by omega))
      have zu : ∀ o, w3.frozen? ⟨g, o, none⟩ = false := hM3.fz (by omega)
      have HM : Hid ((∀ i, i < k → MkRow w3 g (i * 4) (k0 + i * 4)) ∧ MayT w3 g (some ⟨g, 0, none⟩) n ∧ Keep g w w3) := ⟨fun i hi => (m1 i hi).below hb3, hM3, (m3 g (fun _ => rfl)).trans (Keep.of_below hb3)⟩
      clear m1 m2 m3 hM3 HK hb3
      go_wp2_with fail
      refine (markText_any (k0 + k * 4 + 3) _ (by omega) (by omega)).mono ?_
      rintro e w4 ⟨rfl, hb4⟩
      obtain ⟨c0, c1, c2, hm4, hM4, hK4⟩ := mark_mid hlt HM.out.1 HM.out.2.1 HM.out.2.2 hb4
      obtain ⟨u4, hu4⟩ := Option.isSome_iff_exists.1 (hM4.some_ (k * 4 + 3) (by omega))
      have zu4 : ∀ o, w4.frozen? ⟨g, o, none⟩ = false := hM4.fz (by omega)
      have HM4 : Hid ((∀ i, i < k → MkRow w4 g (i * 4) (k0 + i * 4)) ∧ MayT w4 g (some ⟨g, 0, none⟩) n ∧ Keep g w w4 ∧ w4.cell? ⟨g, k * 4, none⟩ = some (.string (mt (k0 + k * 4))) ∧ w4.cell? ⟨g, k * 4 + 1, none⟩ = some (.int .i64 ((k0 : Int) + (k : Int) * 4 + 1)) ∧ w4.cell? ⟨g, k * 4 + 2, none⟩ = some (.int .i64 ((k0 : Int) + (k : Int) * 4 + 1 + 1))) := ⟨hm4, hM4, hK4, c0, c1, c2⟩
      clear hm4 hM4 hK4 c0 c1 c2 HM hb4 hu0 hu1 hu2 hu3 zu
      go_wp2
      go_roundw
      case rel =>
        obtain ⟨hm4, hM4, hK4, c0, c1, c2⟩ := HM4.out
        refine ⟨k + 1, by omega, by go_num, by first | go_num | (congr 1; omega), fun i hi => ?_, hM4.set _ _, fun B hB => ?_⟩
        · by_cases e : i = k
          · subst e
            refine ⟨?_, ?_, ?_, World.cell?_setCell_same' _ _ _ (by rw [hu4]; rfl)⟩
            · rw [World.cell?_setCell_other _ _ _ _ (by simp)]; exact c0
            · rw [World.cell?_setCell_other _ _ _ _ (by simp)]; exact c1
            · rw [World.cell?_setCell_other _ _ _ _ (by simp)]; exact c2
          · exact (hm4 i (by omega)).other (.inr (by omega))
        · obtain rfl : B = g := hB (by omega)
          exact hK4.setCell _ _
      case measure => simp [intOf]; omega
    · have hge : (n : Int) ≤ (k : Int) := by omega
      obtain rfl : k = n := by omega
      have HK : Hid ((∀ i, i < k → MkRow wr g (i * 4) (k0 + i * 4)) ∧ MayT wr g A k ∧ ∀ B, (0 < k → B = g) → Keep B w wr) := ⟨hm, hM, hK⟩
      clear hm hM hK
      go_wp2
      go_ret
      exact ⟨rfl, HK.out.1, HK.out.2.1, HK.out.2.2⟩
set_option maxHeartbeats 1000000 in
theorem heldRows_any (A : Option Addr) (C g n k0 : Nat) (w : World) (hn : n ≤ 1000) (hk0 : 0 < k0) (hk1 : k0 ≤ 1000) (hat : 0 < n → A = some ⟨g, 0, none⟩) (hm : ∀ i, i < n → MkRow w g (i * 4) (k0 + i * 4)) :
    Calls Tryd.prog 10 #[.slice A n C, .int .i64 k0] w fun e w' => e = .returned (.int .i64 ((k0 + n * 4 : Nat) : Int)) ∧ Below w.heap.size w w' := by
  have HT : Hid ((0 < n → A = some ⟨g, 0, none⟩) ∧ ∀ i, i < n → MkRow w g (i * 4) (k0 + i * 4)) := ⟨hat, hm⟩
  clear hat hm
  go_enter Tryd.func10, Tryd.ntmps10
  go_wp2
  go_loopw [1, 5] (fun kv i wr => ∃ k : Nat, k ≤ n ∧ i = .int .i64 k ∧ kv = .int .i64 ((k0 + k * 4 : Nat) : Int) ∧ Below w.heap.size w wr) (fun _ i _ => n - (intOf i).toNat)
  case atStart => exact ⟨0, Nat.zero_le _, rfl, by simp, Below.refl _ _⟩
  case round =>
    obtain ⟨k, hk, rfl, rfl, hb⟩ := hrel
    by_cases hlt : k < n
    · have hlt' : (k : Int) < (n : Int) := by omega
      have e1 := HT.out.1 (by omega)
      subst e1
      obtain ⟨r0, r1, r2, r3⟩ := HT.out.2 k hlt
      have lb := cell_lt r0
      have c0 := (hb.cell (p := ⟨g, k * 4, none⟩) lb).trans r0
      have c1 := (hb.cell (p := ⟨g, k * 4 + 1, none⟩) lb).trans r1
      have c2 := (hb.cell (p := ⟨g, k * 4 + 2, none⟩) lb).trans r2
      have c3 := (hb.cell (p := ⟨g, k * 4 + 3, none⟩) lb).trans r3
      have e2 : (((k0 + k * 4 + 1 : Nat) : Int)) = (k0 : Int) + (k : Int) * 4 + 1 := by omega
      have e3 : (((k0 + k * 4 + 2 : Nat) : Int)) = (k0 : Int) + (k : Int) * 4 + 1 + 1 := by omega
      rw [e2] at c1
      rw [e3] at c2
      have hgr : g < wr.heap.size := cell_lt c0
      have HB : Hid (Below w.heap.size w wr) := hb
      clear hb r0 r1 r2 r3 e2 e3
      go_wp2_with fail
      go_region_held3 (fun w' => w'.cell? ⟨g, k * 4, none⟩ = some (.string (mt (k0 + k * 4)))) (go_keep)
        (first | (go_at_call 18; refine (markText_any (k0 + k * 4) _ (by omega) (by omega)).mono ?_; rintro e w3 ⟨rfl, hb3⟩; have ku3 := (hb3.cell (p := ⟨g, k * 4, none⟩) hgr).trans (show wr.drew.cell? ⟨g, k * 4, none⟩ = _ from c0)))
      have b3 : Below wr.heap.size wr w3 := (Below.refl _ wr).drew.trans hb3
      have c1' := (b3.cell (p := ⟨g, k * 4 + 1, none⟩) hgr).trans c1
      have c2' := (b3.cell (p := ⟨g, k * 4 + 2, none⟩) hgr).trans c2
      have c3' := (b3.cell (p := ⟨g, k * 4 + 3, none⟩) hgr).trans c3
      have hg3 : g < w3.heap.size := cell_lt c3'
      have HB3 : Hid (Below w.heap.size w w3) := HB.out.trans (b3.mono HB.out.size)
      clear b3 hb3 c0 c1 c2 c3
      go_wp2_with fail
      go_region_held3 (fun w' => w'.cell? ⟨g, k * 4 + 3, none⟩ = some (.string (mt (k0 + k * 4 + 3)))) (go_keep)
        (first | (go_at_call 18; refine (markText_any (k0 + k * 4 + 3) _ (by omega) (by omega)).mono ?_; rintro e w4 ⟨rfl, hb4⟩; have ku4 := (hb4.cell (p := ⟨g, k * 4 + 3, none⟩) hg3).trans (show w3.drew.cell? ⟨g, k * 4 + 3, none⟩ = _ from c3')))
      go_wp2
      go_roundw
      case rel => exact ⟨k + 1, by omega, by go_num, by first | go_num | (congr 1; omega), HB3.out.drew.trans (hb4.mono (show w.heap.size ≤ w3.heap.size from HB3.out.size))⟩
      case measure => simp [intOf]; omega
    · have hge : (n : Int) ≤ (k : Int) := by omega
      obtain rfl : k = n := by omega
      have HB : Hid (Below w.heap.size w wr) := hb
      clear hb
      go_wp2
      go_ret
      exact ⟨rfl, HB.out⟩
end Go.Proofs.YtpmghkkkiniblaaDoor
