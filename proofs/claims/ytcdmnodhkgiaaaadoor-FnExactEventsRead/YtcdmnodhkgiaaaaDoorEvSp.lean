/- Contract of the model's l16Event. -/
import Derived.Test.YtcdmnodhkgiaaaaDoorUnhS
import Derived.Test.YtcdmnodhkgiaaaaDoorL01Sp
import Derived.Test.YtcdmnodhkgiaaaaDoorEtT
import Derived.Test.YtcdmnodhkgiaaaaDoorEvS
import Derived.Test.YtcdmnodhkgiaaaaDoorEvI
import Derived.BigQuiet
import Derived.WalkSpells
import Derived.Deep.RegionHeld3
import Derived.Deep.CutBlock
import Derived.Deep.RegionLaw
import Derived.Deep.Cut
import Derived.Deep.CutRange
namespace Go.Proofs.YtcdmnodhkgiaaaaDoor
open Go.ChangeShapes Go.WideShapes Go.ChangeAt Go.RowKit
theorem rowCell {W : World} {n e c C : Nat} {A : Option Addr} {xs : List Value} (h : W.ownsRow n e 1 (.slice A c C) c xs) (h0 : 0 < c) : ∃ g, A = some ⟨g, 0, none⟩ ∧ ∀ (j : Nat) (v : Value), j < c → xs[j]? = some v → W.cell? ⟨g, j, none⟩ = some v := by
  rcases h.2 with ⟨_, h0'⟩ | ⟨g, cap, cur, e1, _, hh, hc, hm, hs, ht⟩
  · omega
  · simp only [Value.slice.injEq] at e1
    refine ⟨g, e1.1, fun j v hj hv => ?_⟩
    rw [← ht] at hv
    rw [List.getElem?_take_of_lt (by omega), Array.getElem?_toList] at hv
    simp only [World.cell?, hh]
    exact hv
/-- The model's event so far: its block is E, all below E is as it lay. -/
structure EvC (E : Nat) (w1 W : World) (kd : Int) (a b c : ByteArray) : Prop where
  x : W.heap[E]? = some (.cells #[.int .i64 kd, .string a, .string b, .string c] 39)
  bel : Below E w1 W
theorem EvC.k {E : Nat} {w1 W : World} {kd : Int} {a b c : ByteArray} (h : EvC E w1 W kd a b c) (k' : Int) : EvC E w1 (W.setCell ⟨E, 0, none⟩ (.int .i64 k')) k' a b c := ⟨heap_setCell_same W E 0 _ _ _ h.x, h.bel.setCell (Nat.le_refl _) _⟩
theorem EvC.a {E : Nat} {w1 W : World} {kd : Int} {a b c : ByteArray} (h : EvC E w1 W kd a b c) (a' : ByteArray) : EvC E w1 (W.setCell ⟨E, 1, none⟩ (.string a')) kd a' b c := ⟨heap_setCell_same W E 1 _ _ _ h.x, h.bel.setCell (Nat.le_refl _) _⟩
theorem EvC.b {E : Nat} {w1 W : World} {kd : Int} {a b c : ByteArray} (h : EvC E w1 W kd a b c) (b' : ByteArray) : EvC E w1 (W.setCell ⟨E, 2, none⟩ (.string b')) kd a b' c := ⟨heap_setCell_same W E 2 _ _ _ h.x, h.bel.setCell (Nat.le_refl _) _⟩
theorem EvC.c {E : Nat} {w1 W : World} {kd : Int} {a b c : ByteArray} (h : EvC E w1 W kd a b c) (c' : ByteArray) : EvC E w1 (W.setCell ⟨E, 3, none⟩ (.string c')) kd a b c' := ⟨heap_setCell_same W E 3 _ _ _ h.x, h.bel.setCell (Nat.le_refl _) _⟩
theorem EvC.below {E : Nat} {w1 W W' : World} {kd : Int} {a b c : ByteArray} (h : EvC E w1 W kd a b c) (hb : Below W.heap.size W W') : EvC E w1 W' kd a b c := by
  have hl := (Array.getElem?_eq_some_iff.1 h.x).1
  exact ⟨(hb.block _ hl).trans h.x, h.bel.trans (hb.mono (by omega))⟩
theorem EvC.cells {E : Nat} {w1 W : World} {kd : Int} {a b c : ByteArray} (h : EvC E w1 W kd a b c) : (∀ o, W.frozen? ⟨E, o, none⟩ = false) ∧ W.cell? ⟨E, 0, none⟩ = some (.int .i64 kd) ∧ W.cell? ⟨E, 1, none⟩ = some (.string a) ∧ W.cell? ⟨E, 2, none⟩ = some (.string b) ∧ W.cell? ⟨E, 3, none⟩ = some (.string c) := by
  have hx := h.x
  exact ⟨fun o => by simp [World.frozen?, hx], bx4e hx⟩
theorem listNe {s t : ByteArray} (h : s ≠ t) : (s.toList == t.toList) = false ∧ s.toList ≠ t.toList := by
  have h0 : s.toList ≠ t.toList := fun e => h (by
    rw [ByteArray.toList_eq, ByteArray.toList_eq] at e
    exact ByteArray.ext (Array.toList_inj.1 e))
  exact ⟨by rw [beq_eq_false_iff_ne]; exact h0, h0⟩
theorem mdK_of (s : ByteArray) : (s = evW 1 ∧ mdK s = 1) ∨ (s = evW 2 ∧ mdK s = 2) ∨ (s = evW 3 ∧ mdK s = 3) ∨ (s = evW 4 ∧ mdK s = 4) ∨ (mdK s = 0 ∧ s ≠ evW 1 ∧ s ≠ evW 2 ∧ s ≠ evW 3 ∧ s ≠ evW 4) := by
  by_cases h1 : s = evW 1
  · exact .inl ⟨h1, by rw [h1]; exact mdK_1⟩
  by_cases h2 : s = evW 2
  · exact .inr (.inl ⟨h2, by rw [h2]; exact mdK_2⟩)
  by_cases h3 : s = evW 3
  · exact .inr (.inr (.inl ⟨h3, by rw [h3]; exact mdK_3⟩))
  by_cases h4 : s = evW 4
  · exact .inr (.inr (.inr (.inl ⟨h4, by rw [h4]; exact mdK_4⟩)))
  · exact .inr (.inr (.inr (.inr ⟨by unfold mdK; rw [if_neg h1, if_neg h2, if_neg h3, if_neg h4], h1, h2, h3, h4⟩)))
set_option maxRecDepth 100000 in
set_option maxHeartbeats 4000000 in
theorem l16Event_any (t : ByteArray) (ht : t.size ≤ 20000) (w : World) : Calls Tryd.prog 26 #[.string t] w fun e w' => ∃ ev : EvR, e = .returned (.tuple #[vE ev, .bool (goodL t)]) ∧ (goodL t = true → ev = rdW (pcB 32 t)) ∧ Below w.heap.size w w' := by
  obtain ⟨W0, hW0⟩ : ∃ W0, w.alloc (.cells #[.int .i64 0, .string ⟨#[]⟩, .string ⟨#[]⟩, .string ⟨#[]⟩] 39) = W0 := ⟨_, rfl⟩
  have H0 : Hid (Below w.heap.size w W0 ∧ W0.heap[w.heap.size]? = some (.cells #[.int .i64 0, .string ⟨#[]⟩, .string ⟨#[]⟩, .string ⟨#[]⟩] 39) ∧ W0.heap.size = w.heap.size + 1) := by
    show _ ∧ _ ∧ _
    rw [← hW0]
    exact ⟨(Below.refl _ _).alloc (Nat.le_refl _) _, World.alloc_heap_new _ _, by simp⟩
  have Q := l01Split_any t 32 (by omega) W0
  have hpl := pcB_len 32 t
  have HM : Hid (∀ e : EvR, (mdR (pcB 32 t) = some e ∧ evB e = true ∧ evX e = t) ↔ (rdW (pcB 32 t) = e ∧ evB e = true)) := fun e => md_iff rfl e
  have HG : Hid (goodL t = evB (rdW (pcB 32 t))) := rfl
  have HS : Hid (∀ x ∈ pcB 32 t, x.size ≤ t.size) := fun x hx => pcB_size hx
  obtain ⟨s0, r, hws⟩ := List.exists_cons_of_ne_nil (pcB_ne 32 t)
  rw [hws] at Q hpl HM HG HS
  obtain ⟨n, hn⟩ : ∃ n, n = (s0 :: r).length := ⟨_, rfl⟩
  have hn1 : n = r.length + 1 := by rw [hn]; rfl
  rw [← hn] at Q hpl
  have HPC : Hid (rdW (s0 :: r) = rdW (pcB 32 t)) := show rdW (s0 :: r) = rdW (pcB 32 t) from by rw [hws]
  clear hws hn
  go_enter Tryd.func26, Tryd.ntmps26
  go_upto_region 1 with fail
  try rw [hW0]
  clear hW0
  go_wp2_with fail
  refine Q.mono ?_
  rintro e w1 ⟨A, C, rfl, hrow, hb1⟩
  obtain ⟨g, rfl, hcl⟩ := rowCell hrow (by omega)
  have HC : Hid (∀ W, Below w1.heap.size w1 W → ∀ (j : Nat) (x : ByteArray), (s0 :: r)[j]? = some x → W.cell? ⟨g, j, none⟩ = some (.string x)) := fun W hW j x hj => by
    have hjn := (List.getElem?_eq_some_iff.1 hj).1
    have hx := hcl j (.string x) (by simp at hjn; omega) (by rw [List.getElem?_map, hj]; rfl)
    exact (hW.cell (World.block_lt_of_cell? _ _ hx)).trans hx
  have H1 : Hid (Below w.heap.size w w1 ∧ w1.heap[w.heap.size]? = some (.cells #[.int .i64 0, .string ⟨#[]⟩, .string ⟨#[]⟩, .string ⟨#[]⟩] 39) ∧ w.heap.size < w1.heap.size) := ⟨H0.out.1.trans (hb1.mono (by have := H0.out.2.2; omega)), (hb1.block _ (by have := H0.out.2.2; omega)).trans H0.out.2.1, by have := H0.out.2.2; have := hb1.size; omega⟩
  clear hrow hb1 hcl Q H0
  go_upto_region 3 with fail
  obtain ⟨W2, hW2⟩ : ∃ W2, w1.alloc (.cells #[.int .i64 0, .string ⟨#[]⟩, .string ⟨#[]⟩, .string ⟨#[]⟩] 39) = W2 := ⟨_, rfl⟩
  have H2 : Hid (EvC w1.heap.size w1 W2 0 ⟨#[]⟩ ⟨#[]⟩ ⟨#[]⟩) := by
    show EvC _ _ _ _ _ _ _
    rw [← hW2]
    exact ⟨World.alloc_heap_new _ _, (Below.refl _ _).alloc (Nat.le_refl _) _⟩
  have k0 := HC.out W2 H2.out.bel 0 s0 rfl
  rw [hW2]
  clear hW2
  obtain ⟨E, hE⟩ : ∃ E, w1.heap.size = E := ⟨_, rfl⟩
  rw [hE] at H2
  have HE : Hid (w1.heap.size = E) := hE
  rw [hE]
  clear hE
  obtain ⟨f2, p0, p1, p2, p3⟩ := H2.out.cells
  go_upto_block 0 with fail
  go_cut [] from 14 to 25 (fun wx => EvC E w1 wx (mdK s0) ⟨#[]⟩ ⟨#[]⟩ ⟨#[]⟩)
  case first =>
    have hk := mdK_of s0
    rcases hk with ⟨rfl, hk⟩ | ⟨rfl, hk⟩ | ⟨rfl, hk⟩ | ⟨rfl, hk⟩ | ⟨hk, n1, n2, n3, n4⟩
    · have HK : Hid (mdK (evW 1) = 1) := hk
      clear hk
      unfold evW
      go_wp2_with fail
      go_meet
      rw [HK.out]
      exact H2.out.k 1
    · have HK : Hid (mdK (evW 2) = 2) := hk
      clear hk
      unfold evW
      go_wp2_with fail
      go_meet
      rw [HK.out]
      exact H2.out.k 2
    · have HK : Hid (mdK (evW 3) = 3) := hk
      clear hk
      unfold evW
      go_wp2_with fail
      go_meet
      rw [HK.out]
      exact H2.out.k 3
    · have HK : Hid (mdK (evW 4) = 4) := hk
      clear hk
      unfold evW
      go_wp2_with fail
      go_meet
      rw [HK.out]
      exact H2.out.k 4
    · have HK : Hid (mdK s0 = 0) := hk
      clear hk
      obtain ⟨a1, b1⟩ := listNe n1
      obtain ⟨a2, b2⟩ := listNe n2
      obtain ⟨a3, b3⟩ := listNe n3
      obtain ⟨a4, b4⟩ := listNe n4
      have e1 : (evW 1).toList = [112, 97, 114, 116, 110, 101, 114] := by rw [ByteArray.toList_eq]; rfl
      have e2 : (evW 2).toList = [99, 114, 111, 115, 115] := by rw [ByteArray.toList_eq]; rfl
      have e3 : (evW 3).toList = [116, 97, 107, 101] := by rw [ByteArray.toList_eq]; rfl
      have e4 : (evW 4).toList = [110, 101, 120, 116] := by rw [ByteArray.toList_eq]; rfl
      rw [e1] at a1 b1
      rw [e2] at a2 b2
      rw [e3] at a3 b3
      rw [e4] at a4 b4
      clear e1 e2 e3 e4 n1 n2 n3 n4
      go_wp2_with fail
      go_meet
      rw [HK.out]
      exact H2.out
  case rest =>
    have H3 : Hid (EvC E w1 wc (mdK s0) ⟨#[]⟩ ⟨#[]⟩ ⟨#[]⟩) := hcut
    clear hcut f2 p0 p1 p2 p3 k0 H2
    obtain ⟨kd, hkd⟩ : ∃ kd, kd = mdK s0 := ⟨_, rfl⟩
    have HKD : Hid (kd = mdK s0) := hkd
    rw [← hkd] at H3
    clear hkd
    obtain ⟨a, ha⟩ : ∃ a, a = mdA (s0 :: r) 1 := ⟨_, rfl⟩
    obtain ⟨b, hb⟩ : ∃ b, b = mdA (s0 :: r) 2 := ⟨_, rfl⟩
    obtain ⟨c, hc⟩ : ∃ c, c = mdA (s0 :: r) 3 := ⟨_, rfl⟩
    have HABC : Hid (a = mdA (s0 :: r) 1 ∧ b = mdA (s0 :: r) 2 ∧ c = mdA (s0 :: r) 3) := ⟨ha, hb, hc⟩
    clear ha hb hc
    have HAT : Hid (∀ j, (r.length + 1 ≤ j → mdA (s0 :: r) j = ⟨#[]⟩) ∧ (j < r.length + 1 → ∀ W, Below w1.heap.size w1 W → W.cell? ⟨g, j, none⟩ = some (.string (mdA (s0 :: r) j)))) := fun j => by
      refine ⟨fun hj => ?_, fun hj W hW => ?_⟩
      · unfold mdA
        rw [List.getElem?_eq_none (by simpa using hj)]
        rfl
      · have e : (s0 :: r)[j]? = some (mdA (s0 :: r) j) := by
          unfold mdA
          rw [List.getElem?_eq_getElem (by simpa using hj)]
          rfl
        exact HC.out W hW j _ e
    obtain ⟨f2, p0, p1, p2, p3⟩ := H3.out.cells
    have kj : 1 < r.length + 1 → wc.cell? ⟨g, 1, none⟩ = some (.string a) := fun hj => by
      rw [HABC.out.1]
      exact (HAT.out 1).2 hj wc (by rw [HE.out]; exact H3.out.bel)
    have hlen1 : ((1 : Nat) : Int) < (r.length : Int) + 1 ↔ 1 < r.length + 1 := by omega
    have HKJ : Hid (1 < r.length + 1 → wc.cell? ⟨g, 1, none⟩ = some (.string a)) := kj
    clear kj hlen1
    go_upto_if 28 with fail
    go_cut [] from 29 to 32 (fun wx => EvC E w1 wx kd a ⟨#[]⟩ ⟨#[]⟩)
    case first =>
      by_cases hj : 1 < r.length + 1
      · have hj' : (r.length : Int) + 1 > 1 := by omega
        have kj := HKJ.out hj
        go_wp2_with fail
        go_meet
        exact H3.out.a a
      · have hj' : ¬ (r.length : Int) + 1 > 1 := by omega
        have HZ : Hid (a = ⟨#[]⟩) := by
          show _ = _
          rw [HABC.out.1]
          exact (HAT.out 1).1 (by omega)
        go_wp2_with fail
        go_meet
        rw [HZ.out]
        exact H3.out
    case rest =>
    have H4 : Hid (EvC E w1 wc kd a ⟨#[]⟩ ⟨#[]⟩) := hcut
    clear hcut f2 p0 p1 p2 p3 HKJ H3
    obtain ⟨f2, p0, p1, p2, p3⟩ := H4.out.cells
    have kj : 2 < r.length + 1 → wc.cell? ⟨g, 2, none⟩ = some (.string b) := fun hj => by
      rw [HABC.out.2.1]
      exact (HAT.out 2).2 hj wc (by rw [HE.out]; exact H4.out.bel)
    have hlen2 : ((2 : Nat) : Int) < (r.length : Int) + 1 ↔ 2 < r.length + 1 := by omega
    have HKJ : Hid (2 < r.length + 1 → wc.cell? ⟨g, 2, none⟩ = some (.string b)) := kj
    clear kj hlen2
    go_upto_if 35 with fail
    go_cut [] from 36 to 39 (fun wx => EvC E w1 wx kd a b ⟨#[]⟩)
    case first =>
      by_cases hj : 2 < r.length + 1
      · have hj' : (r.length : Int) + 1 > 2 := by omega
        have kj := HKJ.out hj
        go_wp2_with fail
        go_meet
        exact H4.out.b b
      · have hj' : ¬ (r.length : Int) + 1 > 2 := by omega
        have HZ : Hid (b = ⟨#[]⟩) := by
          show _ = _
          rw [HABC.out.2.1]
          exact (HAT.out 2).1 (by omega)
        go_wp2_with fail
        go_meet
        rw [HZ.out]
        exact H4.out
    case rest =>
    have H5 : Hid (EvC E w1 wc kd a b ⟨#[]⟩) := hcut
    clear hcut f2 p0 p1 p2 p3 HKJ H4
    obtain ⟨f2, p0, p1, p2, p3⟩ := H5.out.cells
    have kj : 3 < r.length + 1 → wc.cell? ⟨g, 3, none⟩ = some (.string c) := fun hj => by
      rw [HABC.out.2.2]
      exact (HAT.out 3).2 hj wc (by rw [HE.out]; exact H5.out.bel)
    have hlen3 : ((3 : Nat) : Int) < (r.length : Int) + 1 ↔ 3 < r.length + 1 := by omega
    have HKJ : Hid (3 < r.length + 1 → wc.cell? ⟨g, 3, none⟩ = some (.string c)) := kj
    clear kj hlen3
    go_upto_if 42 with fail
    go_cut [] from 43 to 46 (fun wx => EvC E w1 wx kd a b c)
    case first =>
      by_cases hj : 3 < r.length + 1
      · have hj' : (r.length : Int) + 1 > 3 := by omega
        have kj := HKJ.out hj
        go_wp2_with fail
        go_meet
        exact H5.out.c c
      · have hj' : ¬ (r.length : Int) + 1 > 3 := by omega
        have HZ : Hid (c = ⟨#[]⟩) := by
          show _ = _
          rw [HABC.out.2.2]
          exact (HAT.out 3).1 (by omega)
        go_wp2_with fail
        go_meet
        rw [HZ.out]
        exact H5.out
    case rest =>
    have H6 : Hid (EvC E w1 wc kd a b c) := hcut
    clear hcut f2 p0 p1 p2 p3 HKJ H5
    have HRES : Hid (∀ W, Below E w1 W → W.heap[w.heap.size]? = some (.cells #[.int .i64 0, .string ⟨#[]⟩, .string ⟨#[]⟩, .string ⟨#[]⟩] 39) ∧ Below w.heap.size w W) := fun W hW => by
      have h1 := H1.out.2.2
      have h2 := HE.out
      exact ⟨(hW.block _ (by omega)).trans H1.out.2.1, H1.out.1.trans (hW.mono (by omega))⟩
    have hne : w.heap.size ≠ E := by have h1 := H1.out.2.2; have h2 := HE.out; omega
    have hsa : a.size ≤ 20000 := by
      rw [HABC.out.1]
      by_cases hj : 1 < r.length + 1
      · have e : (s0 :: r)[1]? = some (mdA (s0 :: r) 1) := by
          unfold mdA
          rw [List.getElem?_eq_getElem (by simpa using hj)]
          rfl
        have := HS.out _ (List.mem_of_getElem? e)
        omega
      · rw [(HAT.out 1).1 (by omega)]
        exact Nat.zero_le _
    obtain ⟨f2, p0, p1, p2, p3⟩ := H6.out.cells
    clear HC HAT hpl hn1
    go_upto_if 49 with fail
    go_cut [6, 7] from 49 to 60 (fun x6 x7 wx => ∃ a', EvC E w1 wx kd a' b c ∧ mdR (s0 :: r) = some ⟨kd, a', b, c⟩)
    case first =>
      by_cases h3 : kd = 3
      · have hq : (kd == 3) = true := by simp [h3]
        have HR : Hid (mdR (s0 :: r) = (unX a).map fun a' => ⟨kd, a', b, c⟩) := by
          show _ = _
          unfold mdR
          have e0 : mdA (s0 :: r) 0 = s0 := rfl
          rw [e0, ← HKD.out, if_pos h3, ← HABC.out.1, ← HABC.out.2.1, ← HABC.out.2.2, h3]
        clear h3
        go_wp2_with fail
        refine (unhex_spec a hsa _).mono ?_
        rintro e w4 ⟨s, rfl, hs, hb4⟩
        have H7 : Hid (EvC E w1 w4 kd a b c) := H6.out.below hb4
        clear f2 p0 p1 p2 p3
        obtain ⟨f2, p0, p1, p2, p3⟩ := H7.out.cells
        cases hu : unX a with
        | none =>
          have HN : Hid (goodL t = false) := by
            show goodL t = false
            cases hg : goodL t with
            | false => rfl
            | true =>
              have := ((HM.out (rdW (s0 :: r))).2 ⟨rfl, by rw [← HG.out]; exact hg⟩).1
              rw [HR.out, hu] at this
              cases this
          clear hs hb4 hu
          obtain ⟨r0, r1⟩ := HRES.out w4 H7.out.bel
          have HX : Hid (w4.heap[w.heap.size]? = some (.cells #[.int .i64 0, .string ⟨#[]⟩, .string ⟨#[]⟩, .string ⟨#[]⟩] 39) ∧ Below w.heap.size w w4) := ⟨r0, r1⟩
          have f1 : ∀ o, w4.frozen? ⟨w.heap.size, o, none⟩ = false := fun o => by simp [World.frozen?, r0]
          obtain ⟨d0, d1, d2, d3⟩ := bx4e r0
          clear r0 r1
          go_wp2
          have h4 := set4_new (.int .i64 kd) (.string a) (.string b) (.string c) HX.out.1
          have hB4 := set4_bel HX.out.2 (Nat.le_refl _) (.int .i64 kd) (.string a) (.string b) (.string c)
          revert h4 hB4
          generalize (((w4.setCell ⟨w.heap.size, 0, none⟩ (.int .i64 kd)).setCell ⟨w.heap.size, 1, none⟩ (.string a)).setCell ⟨w.heap.size, 2, none⟩ (.string b)).setCell ⟨w.heap.size, 3, none⟩ (.string c) = W5
          intro h4 hB4
          have e0 : W5.cell? ⟨w.heap.size, 0, none⟩ = some (.int .i64 kd) := by simp [World.cell?, h4]
          have e1 : W5.cell? ⟨w.heap.size, 1, none⟩ = some (.string a) := by simp [World.cell?, h4]
          have e2 : W5.cell? ⟨w.heap.size, 2, none⟩ = some (.string b) := by simp [World.cell?, h4]
          have e3 : W5.cell? ⟨w.heap.size, 3, none⟩ = some (.string c) := by simp [World.cell?, h4]
          refine bodyPost_ret (v := .tuple #[evV kd a b c, .bool false]) (by simp [results, Tryd.results26, go_sem, evV, e0, e1, e2, e3]; try rfl) rfl ?_
          exact ⟨⟨kd, a, b, c⟩, by rw [HN.out]; rfl, fun h => (by rw [HN.out] at h; cases h), hB4⟩
        | some a' =>
          have HA' : Hid (s = a') := hs a' hu
          have HR2 : Hid (mdR (s0 :: r) = some ⟨kd, a', b, c⟩) := by
            show _ = _
            rw [HR.out, hu]
            rfl
          clear hs hb4 hu
          go_wp2_with fail
          go_meet
          exact ⟨s, H7.out.a s, by rw [HA'.out]; exact HR2.out⟩
      · have hq : (kd == 3) = false := by rw [beq_eq_false_iff_ne]; exact h3
        have HR : Hid (mdR (s0 :: r) = some ⟨kd, a, b, c⟩) := by
          show _ = _
          unfold mdR
          have e0 : mdA (s0 :: r) 0 = s0 := rfl
          rw [e0, ← HKD.out, if_neg h3, ← HABC.out.1, ← HABC.out.2.1, ← HABC.out.2.2]
        clear h3
        go_wp2_with fail
        go_meet
        exact ⟨a, H6.out, HR.out⟩
    case rest =>
    clear f2 p0 p1 p2 p3 H6 hsa HABC
    obtain ⟨a', h7, hmd⟩ := hcut
    have H7 : Hid (EvC E w1 wc kd a' b c) := h7
    obtain ⟨y1, hy1⟩ : ∃ y1, y1 = evB ⟨kd, a', b, c⟩ := ⟨_, rfl⟩
    obtain ⟨x, hx⟩ : ∃ x, x = evX ⟨kd, a', b, c⟩ := ⟨_, rfl⟩
    have HGL : Hid (goodL t = (y1 && (x.toList == t.toList)) ∧ (goodL t = true → (⟨kd, a', b, c⟩ : EvR) = rdW (pcB 32 t))) := by
      have hgd : goodL t = evB (rdW (s0 :: r)) := HG.out
      have hpc : goodL t = evB (rdW (pcB 32 t)) := rfl
      have himp : goodL t = true → rdW (s0 :: r) = ⟨kd, a', b, c⟩ ∧ evB ⟨kd, a', b, c⟩ = true ∧ evX ⟨kd, a', b, c⟩ = t := fun h => by
        have h2 := (HM.out (rdW (s0 :: r))).2 ⟨rfl, by rw [← hgd]; exact h⟩
        rw [hmd] at h2
        have h3 := Option.some.inj h2.1
        rw [h3]
        exact ⟨rfl, h2.2⟩
      refine ⟨?_, fun h => ?_⟩
      · cases hg : goodL t with
        | true =>
          obtain ⟨_, h2, h3⟩ := himp hg
          rw [hy1, hx, h2, h3]
          simp
        | false =>
          symm
          rw [Bool.and_eq_false_iff]
          by_cases h1 : y1 = true
          · refine .inr ?_
            rw [beq_eq_false_iff_ne]
            intro e
            have ex : x = t := by
              rw [ByteArray.toList_eq, ByteArray.toList_eq] at e
              exact ByteArray.ext (Array.toList_inj.1 e)
            have h2 := (HM.out ⟨kd, a', b, c⟩).1 ⟨hmd, by rw [← hy1]; exact h1, by rw [← hx]; exact ex⟩
            rw [hgd, h2.1, h2.2] at hg
            cases hg
          · exact .inl (by simpa using h1)
      · rw [← HPC.out]
        exact (himp h).1.symm
    have HOK : Hid (y1 = true → EvOk ⟨kd, a', b, c⟩) := fun h => evB_iff.1 (by rw [← hy1]; exact h)
    have QR := eventRight_spec ⟨kd, a', b, c⟩
    have QT : y1 = true → ∀ W, Calls Tryd.prog 17 #[.agg #[.int .i64 kd, .string a', .string b, .string c]] W fun e w' => e = .returned (.string x) ∧ Below W.heap.size W w' := fun h W => by
      rw [hx]
      exact l16Text_any ⟨kd, a', b, c⟩ (HOK.out h) W
    rw [← hy1] at QR
    have HW : Hid (∀ W, Below wc.heap.size wc W → (∀ o, W.frozen? ⟨w.heap.size, o, none⟩ = false) ∧ (W.cell? ⟨w.heap.size, 0, none⟩ = some (.int .i64 0) ∧ W.cell? ⟨w.heap.size, 1, none⟩ = some (.string ⟨#[]⟩) ∧ W.cell? ⟨w.heap.size, 2, none⟩ = some (.string ⟨#[]⟩) ∧ W.cell? ⟨w.heap.size, 3, none⟩ = some (.string ⟨#[]⟩)) ∧ W.cell? ⟨E, 0, none⟩ = some (.int .i64 kd) ∧ W.cell? ⟨E, 1, none⟩ = some (.string a') ∧ W.cell? ⟨E, 2, none⟩ = some (.string b) ∧ W.cell? ⟨E, 3, none⟩ = some (.string c)) := fun W hW => by
      have h8 := H7.out.below hW
      have h9 := (HRES.out W h8.bel).1
      exact ⟨fun o => by simp [World.frozen?, h9], bx4e h9, h8.cells.2⟩
    obtain ⟨_, _, q0, q1, q2, q3⟩ := HW.out wc (Below.refl _ _)
    clear h7 hmd hy1 hx HM HG
    have hne' : E ≠ w.heap.size := fun e => hne e.symm
    cases y1 with
    | false =>
      clear QT
      go_upto_region 23 with fail
      refine wp_region_held_drew (S := fun W => W.cell? ⟨E, 0, none⟩ = some (.int .i64 kd) ∧ W.cell? ⟨E, 1, none⟩ = some (.string a') ∧ W.cell? ⟨E, 2, none⟩ = some (.string b) ∧ W.cell? ⟨E, 3, none⟩ = some (.string c)) (by kernel_rfl) ?_ (fun hHeld => ?_)
      · try dsimp only
        first | go_keep | exact ⟨q0, q1, q2, q3⟩
      refine wpAnyH_take (i := 0) (oi := { dst := some 61, op := Op.load 39 (Operand.tmp 5), type := 39, pos := "l16_journal.go:101", after := #[], guard := none }) (v := ?_) rfl (by kernel_rfl) (by kernel_rfl) (by kernel_rfl) (fun _ _ _ h => h) (Or.inl ⟨by rfl, ?_⟩) (by assumption) ?_
      rotate_left 1
      · intro w hSw
        (try dsimp only at hSw)
        go_simp
        try with_reducible rfl
      try simp only [Act.put, List.setIfInBounds_toArray, List.set_cons_zero, List.set_cons_succ]
      refine wpAnyH_take (i := 1) (oi := { dst := some 62, op := Op.load 39 (Operand.tmp 5), type := 39, pos := "l16_journal.go:101", after := #[], guard := none }) (v := ?_) rfl (by kernel_rfl) (by kernel_rfl) (by kernel_rfl) (fun _ _ _ h => h) (Or.inl ⟨by rfl, ?_⟩) (by assumption) ?_
      rotate_left 1
      · intro w hSw
        (try dsimp only at hSw)
        go_simp
        try with_reducible rfl
      try simp only [Act.put, List.setIfInBounds_toArray, List.set_cons_zero, List.set_cons_succ]
      refine wpAnyH_ready (rs := [2]) (by kernel_rfl) (by simp) ?_
      refine AllReadyH.cons (o := { dst := some 63, op := Op.call { callee := Callee.value (Operand.func 16), args := #[Operand.tmp 62], argTypes := #[39] }, type := 4, pos := "l16_journal.go:101", after := #[{ on := 1, ground := Ground.data }], guard := none }) rfl (fun K hK => ?_) AllReadyH.nil
      go_simp
      go_at_call 16
      refine (QR _).mono ?_
      rintro e w5 ⟨rfl, hbc⟩
      have bc : Below wc.heap.size wc w5 := (by first | exact hbc | exact undrewR hbc)
      obtain ⟨f1, ⟨d0, d1, d2, d3⟩, g0, g1, g2, g3⟩ := HW.out w5 bc
      clear hbc
      try dsimp only
      try go_wp2_with fail
      refine hK.out _ _ ?_ (fun hHeld => ?_)
      · try dsimp only
        exact ⟨g0, g1, g2, g3⟩
      clear hK K
      try simp only [Act.put, List.setIfInBounds_toArray, List.set_cons_zero, List.set_cons_succ]
      refine wpAnyH_take (i := 3) (oi := { dst := some 64, op := Op.move (Operand.tmp 63), type := 4, pos := "l16_journal.go:101", after := #[{ on := 2, ground := Ground.data }, { on := 2, ground := Ground.chain }], guard := none }) (v := ?_) rfl (by kernel_rfl) (by kernel_rfl) (by kernel_rfl) (fun _ _ _ h => h) (Or.inl ⟨by rfl, ?_⟩) (by assumption) ?_
      rotate_left 1
      · intro w hSw
        (try dsimp only at hSw)
        go_simp
        try with_reducible rfl
      try simp only [Act.put, List.setIfInBounds_toArray, List.set_cons_zero, List.set_cons_succ]
      refine wpAnyH_take (i := 4) (oi := { dst := some 65, op := Op.load 39 (Operand.tmp 5), type := 39, pos := "l16_journal.go:101", after := #[{ on := 3, ground := Ground.guard }], guard := some (3, true) }) (v := undef) rfl (by kernel_rfl) (by kernel_rfl) (by kernel_rfl) (fun _ _ _ h => h) (Or.inr ⟨by rfl, rfl⟩) (by assumption) ?_
      try simp only [Act.put, List.setIfInBounds_toArray, List.set_cons_zero, List.set_cons_succ]
      refine wpAnyH_take (i := 6) (oi := { dst := some 67, op := Op.move (Operand.tmp 0), type := 9, pos := "l16_journal.go:101", after := #[{ on := 3, ground := Ground.guard }, { on := 9, ground := Ground.gcOnly Departure.lateStores }], guard := some (3, true) }) (v := undef) rfl (by kernel_rfl) (by kernel_rfl) (by kernel_rfl) (fun _ _ _ h => h) (Or.inr ⟨by rfl, rfl⟩) (by assumption) ?_
      try simp only [Act.put, List.setIfInBounds_toArray, List.set_cons_zero, List.set_cons_succ]
      refine wpAnyH_ready (rs := [5]) (by kernel_rfl) (by simp) ?_
      refine AllReadyH.cons (o := { dst := some 66, op := Op.call { callee := Callee.value (Operand.func 17), args := #[Operand.tmp 65], argTypes := #[39] }, type := 9, pos := "l16_journal.go:101", after := #[{ on := 4, ground := Ground.data }, { on := 3, ground := Ground.chain }, { on := 3, ground := Ground.guard }], guard := some (3, true) }) rfl (fun K hK => ?_) AllReadyH.nil
      go_simp
      refine hK.out _ _ ?_ (fun hHeld => ?_)
      · try dsimp only
        exact ⟨g0, g1, g2, g3⟩
      clear hK K
      try simp only [Act.put, List.setIfInBounds_toArray, List.set_cons_zero, List.set_cons_succ]
      refine wpAnyH_take (i := 7) (oi := { dst := some 68, op := Op.binOp BinOp.eql 9 (Operand.tmp 66) (Operand.tmp 67) 9, type := 4, pos := "l16_journal.go:101", after := #[{ on := 5, ground := Ground.data }, { on := 6, ground := Ground.data }, { on := 3, ground := Ground.guard }, { on := 9, ground := Ground.gcOnly Departure.lateStores }], guard := some (3, true) }) (v := undef) rfl (by kernel_rfl) (by kernel_rfl) (by kernel_rfl) (fun _ _ _ h => h) (Or.inr ⟨by rfl, rfl⟩) (by assumption) ?_
      try simp only [Act.put, List.setIfInBounds_toArray, List.set_cons_zero, List.set_cons_succ]
      refine wpAnyH_take (i := 8) (oi := { dst := some 69, op := Op.pick (Operand.tmp 64) (Operand.tmp 68) (Operand.const (Value.bool false)), type := 4, pos := "l16_journal.go:101", after := #[{ on := 3, ground := Ground.data }, { on := 7, ground := Ground.data }, { on := 9, ground := Ground.gcOnly Departure.lateStores }], guard := none }) (v := ?_) rfl (by kernel_rfl) (by kernel_rfl) (by kernel_rfl) (fun _ _ _ h => h) (Or.inl ⟨by rfl, ?_⟩) (by assumption) ?_
      rotate_left 1
      · intro w hSw
        (try dsimp only at hSw)
        go_simp
        try with_reducible rfl
      try simp only [Act.put, List.setIfInBounds_toArray, List.set_cons_zero, List.set_cons_succ]
      refine wpAnyH_ready (rs := [9]) (by kernel_rfl) (by simp) ?_
      refine AllReadyH.cons (o := { dst := none, op := Op.store 39 (Operand.tmp 2) (Operand.tmp 61), type := 0, pos := "l16_journal.go:101", after := #[{ on := 0, ground := Ground.data }, { on := 5, ground := Ground.chain }, { on := 0, ground := Ground.phase }, { on := 1, ground := Ground.textOnly Departure.lateStores }, { on := 2, ground := Ground.textOnly Departure.lateStoresUnsure }, { on := 3, ground := Ground.textOnly Departure.lateStores }, { on := 4, ground := Ground.textOnly Departure.lateStores }, { on := 5, ground := Ground.textOnly Departure.lateStoresUnsure }, { on := 6, ground := Ground.textOnly Departure.lateStores }, { on := 7, ground := Ground.textOnly Departure.lateStores }, { on := 8, ground := Ground.textOnly Departure.lateStores }], guard := none }) rfl (fun K hK => ?_) AllReadyH.nil
      go_simp
      refine hK.out _ _ ?_ (fun hHeld => ?_)
      · try dsimp only
        exact ⟨keep4 g0 hne', keep4 g1 hne', keep4 g2 hne', keep4 g3 hne'⟩
      clear hK K
      try simp only [Act.put, List.setIfInBounds_toArray, List.set_cons_zero, List.set_cons_succ]
      refine wpAnyH_take (i := 10) (oi := { dst := some 3, op := Op.assign (Operand.tmp 69), type := 4, pos := "l16_journal.go:101", after := #[{ on := 8, ground := Ground.data }, { on := 9, ground := Ground.chain }, { on := 0, ground := Ground.phase }, { on := 1, ground := Ground.phase }, { on := 2, ground := Ground.phase }, { on := 3, ground := Ground.phase }, { on := 4, ground := Ground.phase }, { on := 5, ground := Ground.phase }, { on := 6, ground := Ground.phase }, { on := 7, ground := Ground.phase }, { on := 8, ground := Ground.phase }, { on := 9, ground := Ground.phase }], guard := none }) (v := ?_) rfl (by kernel_rfl) (by kernel_rfl) (by kernel_rfl) (fun _ _ _ h => h) (Or.inl ⟨by rfl, ?_⟩) (by assumption) ?_
      rotate_left 1
      · intro w hSw
        (try dsimp only at hSw)
        go_simp
        try with_reducible rfl
      try simp only [Act.put, List.setIfInBounds_toArray, List.set_cons_zero, List.set_cons_succ]
      refine wpAnyH_done (by kernel_rfl) ?_ _
      clear hHeld QR
      have H8 : Hid (Below E w1 w5) := (H7.out.below bc).bel
      clear bc HW q0 q1 q2 q3 f1 d0 d1 d2 d3 g0 g1 g2 g3
      obtain ⟨r0, r1⟩ := HRES.out w5 H8.out
      have HX : Hid (w5.heap[w.heap.size]? = some (.cells #[.int .i64 0, .string ⟨#[]⟩, .string ⟨#[]⟩, .string ⟨#[]⟩] 39) ∧ Below w.heap.size w w5) := ⟨r0, r1⟩
      clear r0 r1
      have h4 := set4_new (.int .i64 kd) (.string a') (.string b) (.string c) HX.out.1
      have hB4 := set4_bel HX.out.2 (Nat.le_refl _) (.int .i64 kd) (.string a') (.string b) (.string c)
      revert h4 hB4
      generalize (((w5.setCell ⟨w.heap.size, 0, none⟩ (.int .i64 kd)).setCell ⟨w.heap.size, 1, none⟩ (.string a')).setCell ⟨w.heap.size, 2, none⟩ (.string b)).setCell ⟨w.heap.size, 3, none⟩ (.string c) = W5
      intro h4 hB4
      have e0 : W5.cell? ⟨w.heap.size, 0, none⟩ = some (.int .i64 kd) := by simp [World.cell?, h4]
      have e1 : W5.cell? ⟨w.heap.size, 1, none⟩ = some (.string a') := by simp [World.cell?, h4]
      have e2 : W5.cell? ⟨w.heap.size, 2, none⟩ = some (.string b) := by simp [World.cell?, h4]
      have e3 : W5.cell? ⟨w.heap.size, 3, none⟩ = some (.string c) := by simp [World.cell?, h4]
      go_wp2
      refine bodyPost_ret (v := .tuple #[evV kd a' b c, .bool false]) (by simp [results, Tryd.results26, go_sem, evV, e0, e1, e2, e3]; try rfl) rfl ?_
      exact ⟨⟨kd, a', b, c⟩, by rw [HGL.out.1]; rfl, HGL.out.2, hB4⟩
    | true =>
      have QT2 := QT rfl
      clear QT
      go_upto_region 23 with fail
      refine wp_region_held_drew (S := fun W => W.cell? ⟨E, 0, none⟩ = some (.int .i64 kd) ∧ W.cell? ⟨E, 1, none⟩ = some (.string a') ∧ W.cell? ⟨E, 2, none⟩ = some (.string b) ∧ W.cell? ⟨E, 3, none⟩ = some (.string c)) (by kernel_rfl) ?_ (fun hHeld => ?_)
      · try dsimp only
        first | go_keep | exact ⟨q0, q1, q2, q3⟩
      refine wpAnyH_take (i := 0) (oi := { dst := some 61, op := Op.load 39 (Operand.tmp 5), type := 39, pos := "l16_journal.go:101", after := #[], guard := none }) (v := ?_) rfl (by kernel_rfl) (by kernel_rfl) (by kernel_rfl) (fun _ _ _ h => h) (Or.inl ⟨by rfl, ?_⟩) (by assumption) ?_
      rotate_left 1
      · intro w hSw
        (try dsimp only at hSw)
        go_simp
        try with_reducible rfl
      try simp only [Act.put, List.setIfInBounds_toArray, List.set_cons_zero, List.set_cons_succ]
      refine wpAnyH_take (i := 1) (oi := { dst := some 62, op := Op.load 39 (Operand.tmp 5), type := 39, pos := "l16_journal.go:101", after := #[], guard := none }) (v := ?_) rfl (by kernel_rfl) (by kernel_rfl) (by kernel_rfl) (fun _ _ _ h => h) (Or.inl ⟨by rfl, ?_⟩) (by assumption) ?_
      rotate_left 1
      · intro w hSw
        (try dsimp only at hSw)
        go_simp
        try with_reducible rfl
      try simp only [Act.put, List.setIfInBounds_toArray, List.set_cons_zero, List.set_cons_succ]
      refine wpAnyH_ready (rs := [2]) (by kernel_rfl) (by simp) ?_
      refine AllReadyH.cons (o := { dst := some 63, op := Op.call { callee := Callee.value (Operand.func 16), args := #[Operand.tmp 62], argTypes := #[39] }, type := 4, pos := "l16_journal.go:101", after := #[{ on := 1, ground := Ground.data }], guard := none }) rfl (fun K hK => ?_) AllReadyH.nil
      go_simp
      go_at_call 16
      refine (QR _).mono ?_
      rintro e w5 ⟨rfl, hbc⟩
      have bc : Below wc.heap.size wc w5 := (by first | exact hbc | exact undrewR hbc)
      obtain ⟨_, _, k0, k1, k2, k3⟩ := HW.out w5 bc
      clear hbc
      try dsimp only
      try go_wp2_with fail
      refine hK.out _ _ ?_ (fun hHeld => ?_)
      · try dsimp only
        exact ⟨k0, k1, k2, k3⟩
      clear hK K
      try simp only [Act.put, List.setIfInBounds_toArray, List.set_cons_zero, List.set_cons_succ]
      refine wpAnyH_take (i := 3) (oi := { dst := some 64, op := Op.move (Operand.tmp 63), type := 4, pos := "l16_journal.go:101", after := #[{ on := 2, ground := Ground.data }, { on := 2, ground := Ground.chain }], guard := none }) (v := ?_) rfl (by kernel_rfl) (by kernel_rfl) (by kernel_rfl) (fun _ _ _ h => h) (Or.inl ⟨by rfl, ?_⟩) (by assumption) ?_
      rotate_left 1
      · intro w hSw
        (try dsimp only at hSw)
        go_simp
        try with_reducible rfl
      try simp only [Act.put, List.setIfInBounds_toArray, List.set_cons_zero, List.set_cons_succ]
      refine wpAnyH_take (i := 4) (oi := { dst := some 65, op := Op.load 39 (Operand.tmp 5), type := 39, pos := "l16_journal.go:101", after := #[{ on := 3, ground := Ground.guard }], guard := some (3, true) }) (v := ?_) rfl (by kernel_rfl) (by kernel_rfl) (by kernel_rfl) (fun _ _ _ h => h) (Or.inl ⟨by rfl, ?_⟩) (by assumption) ?_
      rotate_left 1
      · intro w hSw
        (try dsimp only at hSw)
        go_simp
        try with_reducible rfl
      try simp only [Act.put, List.setIfInBounds_toArray, List.set_cons_zero, List.set_cons_succ]
      refine wpAnyH_take (i := 6) (oi := { dst := some 67, op := Op.move (Operand.tmp 0), type := 9, pos := "l16_journal.go:101", after := #[{ on := 3, ground := Ground.guard }, { on := 9, ground := Ground.gcOnly Departure.lateStores }], guard := some (3, true) }) (v := ?_) rfl (by kernel_rfl) (by kernel_rfl) (by kernel_rfl) (fun _ _ _ h => h) (Or.inl ⟨by rfl, ?_⟩) (by assumption) ?_
      rotate_left 1
      · intro w hSw
        (try dsimp only at hSw)
        go_simp
        try with_reducible rfl
      try simp only [Act.put, List.setIfInBounds_toArray, List.set_cons_zero, List.set_cons_succ]
      refine wpAnyH_ready (rs := [5]) (by kernel_rfl) (by simp) ?_
      refine AllReadyH.cons (o := { dst := some 66, op := Op.call { callee := Callee.value (Operand.func 17), args := #[Operand.tmp 65], argTypes := #[39] }, type := 9, pos := "l16_journal.go:101", after := #[{ on := 4, ground := Ground.data }, { on := 3, ground := Ground.chain }, { on := 3, ground := Ground.guard }], guard := some (3, true) }) rfl (fun K hK => ?_) AllReadyH.nil
      go_simp
      go_at_call 17
      refine (QT2 _).mono ?_
      rintro e w6 ⟨rfl, hbd⟩
      have bd : Below wc.heap.size wc w6 := bc.trans ((by first | exact hbd | exact undrewR hbd : Below w5.heap.size w5 w6).mono bc.size)
      obtain ⟨f1, ⟨d0, d1, d2, d3⟩, g0, g1, g2, g3⟩ := HW.out w6 bd
      clear hbd
      try dsimp only
      try go_wp2_with fail
      refine hK.out _ _ ?_ (fun hHeld => ?_)
      · try dsimp only
        exact ⟨g0, g1, g2, g3⟩
      clear hK K
      try simp only [Act.put, List.setIfInBounds_toArray, List.set_cons_zero, List.set_cons_succ]
      refine wpAnyH_take (i := 7) (oi := { dst := some 68, op := Op.binOp BinOp.eql 9 (Operand.tmp 66) (Operand.tmp 67) 9, type := 4, pos := "l16_journal.go:101", after := #[{ on := 5, ground := Ground.data }, { on := 6, ground := Ground.data }, { on := 3, ground := Ground.guard }, { on := 9, ground := Ground.gcOnly Departure.lateStores }], guard := some (3, true) }) (v := ?_) rfl (by kernel_rfl) (by kernel_rfl) (by kernel_rfl) (fun _ _ _ h => h) (Or.inl ⟨by rfl, ?_⟩) (by assumption) ?_
      rotate_left 1
      · intro w hSw
        (try dsimp only at hSw)
        go_simp
        try with_reducible rfl
      try simp only [Act.put, List.setIfInBounds_toArray, List.set_cons_zero, List.set_cons_succ]
      refine wpAnyH_take (i := 8) (oi := { dst := some 69, op := Op.pick (Operand.tmp 64) (Operand.tmp 68) (Operand.const (Value.bool false)), type := 4, pos := "l16_journal.go:101", after := #[{ on := 3, ground := Ground.data }, { on := 7, ground := Ground.data }, { on := 9, ground := Ground.gcOnly Departure.lateStores }], guard := none }) (v := ?_) rfl (by kernel_rfl) (by kernel_rfl) (by kernel_rfl) (fun _ _ _ h => h) (Or.inl ⟨by rfl, ?_⟩) (by assumption) ?_
      rotate_left 1
      · intro w hSw
        (try dsimp only at hSw)
        go_simp
        try with_reducible rfl
      try simp only [Act.put, List.setIfInBounds_toArray, List.set_cons_zero, List.set_cons_succ]
      refine wpAnyH_ready (rs := [9]) (by kernel_rfl) (by simp) ?_
      refine AllReadyH.cons (o := { dst := none, op := Op.store 39 (Operand.tmp 2) (Operand.tmp 61), type := 0, pos := "l16_journal.go:101", after := #[{ on := 0, ground := Ground.data }, { on := 5, ground := Ground.chain }, { on := 0, ground := Ground.phase }, { on := 1, ground := Ground.textOnly Departure.lateStores }, { on := 2, ground := Ground.textOnly Departure.lateStoresUnsure }, { on := 3, ground := Ground.textOnly Departure.lateStores }, { on := 4, ground := Ground.textOnly Departure.lateStores }, { on := 5, ground := Ground.textOnly Departure.lateStoresUnsure }, { on := 6, ground := Ground.textOnly Departure.lateStores }, { on := 7, ground := Ground.textOnly Departure.lateStores }, { on := 8, ground := Ground.textOnly Departure.lateStores }], guard := none }) rfl (fun K hK => ?_) AllReadyH.nil
      go_simp
      refine hK.out _ _ ?_ (fun hHeld => ?_)
      · try dsimp only
        exact ⟨keep4 g0 hne', keep4 g1 hne', keep4 g2 hne', keep4 g3 hne'⟩
      clear hK K
      try simp only [Act.put, List.setIfInBounds_toArray, List.set_cons_zero, List.set_cons_succ]
      refine wpAnyH_take (i := 10) (oi := { dst := some 3, op := Op.assign (Operand.tmp 69), type := 4, pos := "l16_journal.go:101", after := #[{ on := 8, ground := Ground.data }, { on := 9, ground := Ground.chain }, { on := 0, ground := Ground.phase }, { on := 1, ground := Ground.phase }, { on := 2, ground := Ground.phase }, { on := 3, ground := Ground.phase }, { on := 4, ground := Ground.phase }, { on := 5, ground := Ground.phase }, { on := 6, ground := Ground.phase }, { on := 7, ground := Ground.phase }, { on := 8, ground := Ground.phase }, { on := 9, ground := Ground.phase }], guard := none }) (v := ?_) rfl (by kernel_rfl) (by kernel_rfl) (by kernel_rfl) (fun _ _ _ h => h) (Or.inl ⟨by rfl, ?_⟩) (by assumption) ?_
      rotate_left 1
      · intro w hSw
        (try dsimp only at hSw)
        go_simp
        try with_reducible rfl
      try simp only [Act.put, List.setIfInBounds_toArray, List.set_cons_zero, List.set_cons_succ]
      refine wpAnyH_done (by kernel_rfl) ?_ _
      clear QR QT2 hHeld
      have H8 : Hid (Below E w1 w6) := (H7.out.below bd).bel
      clear bc bd HW q0 q1 q2 q3 f1 d0 d1 d2 d3 g0 g1 g2 g3 k0 k1 k2 k3
      obtain ⟨r0, r1⟩ := HRES.out w6 H8.out
      have HX : Hid (w6.heap[w.heap.size]? = some (.cells #[.int .i64 0, .string ⟨#[]⟩, .string ⟨#[]⟩, .string ⟨#[]⟩] 39) ∧ Below w.heap.size w w6) := ⟨r0, r1⟩
      clear r0 r1
      have h4 := set4_new (.int .i64 kd) (.string a') (.string b) (.string c) HX.out.1
      have hB4 := set4_bel HX.out.2 (Nat.le_refl _) (.int .i64 kd) (.string a') (.string b) (.string c)
      revert h4 hB4
      generalize (((w6.setCell ⟨w.heap.size, 0, none⟩ (.int .i64 kd)).setCell ⟨w.heap.size, 1, none⟩ (.string a')).setCell ⟨w.heap.size, 2, none⟩ (.string b)).setCell ⟨w.heap.size, 3, none⟩ (.string c) = W5
      intro h4 hB4
      have e0 : W5.cell? ⟨w.heap.size, 0, none⟩ = some (.int .i64 kd) := by simp [World.cell?, h4]
      have e1 : W5.cell? ⟨w.heap.size, 1, none⟩ = some (.string a') := by simp [World.cell?, h4]
      have e2 : W5.cell? ⟨w.heap.size, 2, none⟩ = some (.string b) := by simp [World.cell?, h4]
      have e3 : W5.cell? ⟨w.heap.size, 3, none⟩ = some (.string c) := by simp [World.cell?, h4]
      go_wp2
      refine bodyPost_ret (v := .tuple #[evV kd a' b c, .bool (x.toList == t.toList)]) (by simp [results, Tryd.results26, go_sem, evV, e0, e1, e2, e3]; try rfl) rfl ?_
      exact ⟨⟨kd, a', b, c⟩, by rw [HGL.out.1]; rfl, HGL.out.2, hB4⟩
end Go.Proofs.YtcdmnodhkgiaaaaDoor
