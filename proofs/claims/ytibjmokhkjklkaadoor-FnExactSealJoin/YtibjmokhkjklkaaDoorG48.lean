/- Texts of ours put together: SlG, OpenN. -/
import Derived.Test.YtibjmokhkjklkaaDoorG25
import Derived.Test.YtibjmokhkjklkaaDoorG47
import Derived.Test.YtibjmokhkjklkaaDoorG33
import Derived.Lib.SmallJoins
namespace Go.Proofs.YtibjmokhkjklkaaDoor
open Go.ChangeShapes Go.WideShapes Go.ChangeAt Go.RowKit
theorem own_cap {W : World} {n : Nat} {u : Value} {zs : List Int} (h : W.ownsRow n 2 1 u zs.length (zs.map (Value.int .i64))) (hl : zs.length ≤ 1000000) : ∃ A C, u = .slice A zs.length C ∧ zs.length ≤ C ∧ C ≤ 9223372036854775807 ∧ RowN W (.slice A zs.length C) zs := by
  obtain ⟨b, _, hL⟩ := LN.of_owns h (by omega)
  rcases h.2 with ⟨e, h0⟩ | ⟨b, cap, cur, e, hb, hh, hc, hm, hs, ht⟩
  · subst e
    have hz : zs.length = 0 := h0
    exact ⟨none, 0, by rw [hz], by omega, by omega, by have := hL.row; rw [hz]; exact this⟩
  · subst e
    exact ⟨_, _, rfl, hc, by unfold maxLen at hm; omega, hL.row⟩
set_option maxHeartbeats 8000000 in
theorem sealFault_impl (v : Value) (rs : List EvR) (c : List Int) (a : Option Addr) (ca : Nat) (w : World) (h : RowEv w v rs) (hw : WrdAt w) (h' : RowN w (.slice a c.length ca) c) (hca : c.length ≤ ca) (hc2 : ca ≤ 9223372036854775807) :
    Calls Tryd.prog 17 #[v, .slice a c.length ca] w fun e w' => e = .returned (.int .i64 (faultT rs c)) ∧ Below w.heap.size w w' := by
  obtain ⟨A, Cp, rfl⟩ := h.val
  have hlen := h.len
  have hlc := h'.len
  have H0 : Hid (RowEv w (.slice A rs.length Cp) rs ∧ WrdAt w ∧ RowN w (.slice a c.length ca) c) := ⟨h, hw, h'⟩
  have Q : Calls Tryd.prog 25 #[.slice A rs.length Cp] w fun e w' => e = .returned (.bool (okE rs)) ∧ Below w.heap.size w w' := eventsRight_any (.slice A rs.length Cp) rs w h
  obtain ⟨y, hy⟩ : ∃ y, y = okE rs := ⟨_, rfl⟩
  have HY : Hid (y = okE rs) := hy
  rw [← hy] at Q
  clear h hw hy h'
  go_enter Tryd.func17, Tryd.ntmps17
  by_cases hl : c.length ≤ 400
  case neg =>
    have hl' : (c.length : Int) > 400 := by omega
    have HN : Hid (faultT rs c = 0) := faultT_long hl
    clear Q
    go_wp2
    go_ret
    exact ⟨by rw [HN.out]; rfl, Below.refl _ _⟩
  have hl' : ¬ (c.length : Int) > 400 := by omega
  go_wp2_with fail
  refine Q.mono ?_
  rintro e w1 ⟨rfl, hb1⟩
  have H1 : Hid (Below w.heap.size w w1) := hb1
  clear hb1 Q
  cases y with
  | false =>
    have HN : Hid (faultT rs c = 0) := faultT_no HY.out.symm
    go_wp2
    go_ret
    exact ⟨by rw [HN.out]; rfl, H1.out⟩
  | true =>
    have HN : Hid (faultT rs c = unlikeT (chainT rs) c ∧ (chainT rs).length ≤ 60) := ⟨by rw [chainT_yes HY.out.symm]; exact faultT_yes hl HY.out.symm, chainT_len rs⟩
    have Q2 := sealChain_impl (.slice A rs.length Cp) rs w1 (H0.out.1.below H1.out) (H0.out.2.1.below H1.out)
    obtain ⟨ts, hts⟩ : ∃ ts, ts = chainT rs := ⟨_, rfl⟩
    rw [← hts] at HN Q2
    clear hts HY
    go_wp2_with fail
    refine Q2.mono ?_
    rintro e w2 ⟨u, rfl, hu, hb2⟩
    obtain ⟨A2, C2, rfl, hc3, hc4, hr2⟩ := own_cap hu (by have := HN.out.2; omega)
    have H2 : Hid (Below w.heap.size w w2) := H1.out.trans (hb2.mono H1.out.size)
    have Q3 := unlike_impl ts c A2 a C2 ca w2 hr2 (H0.out.2.2.below H2.out) hc3 hca (by have := HN.out.2; omega) (by omega) hc4 hc2
    clear hu hb2 hr2 Q2
    go_wp2_with fail
    refine Q3.mono ?_
    rintro e w3 ⟨rfl, hb3⟩
    have H3 : Hid (Below w.heap.size w w3) := H2.out.trans (hb3.mono H2.out.size)
    clear hb3 Q3
    go_wp2
    go_ret
    exact ⟨by rw [HN.out.1]; rfl, H3.out⟩
theorem faultE (rs : List EvR) (c : List Int) : (faultT rs c == -1) = decide (faultT rs c = -1) := rfl
set_option maxHeartbeats 4000000 in
theorem isSealedBy_any (v : Value) (rs : List EvR) (c : List Int) (a : Option Addr) (ca : Nat) (w : World) (h : RowEv w v rs) (hw : WrdAt w) (h' : RowN w (.slice a c.length ca) c) (hca : c.length ≤ ca) (hc2 : ca ≤ 9223372036854775807) :
    Calls Tryd.prog 34 #[v, .slice a c.length ca] w fun e w' => e = .returned (.bool (faultT rs c == -1)) ∧ Below w.heap.size w w' := by
  have Q := sealFault_impl v rs c a ca w h hw h' hca hc2
  have hbd := faultT_bd rs c
  obtain ⟨z, hz⟩ : ∃ z, z = faultT rs c := ⟨_, rfl⟩
  rw [← hz] at Q hbd ⊢
  clear hz h hw h'
  go_enter Tryd.func34, Tryd.ntmps34
  go_wp2_with fail
  refine Q.mono ?_
  rintro e w1 ⟨rfl, hb1⟩
  have H1 : Hid (Below w.heap.size w w1) := hb1
  clear hb1 Q
  go_wp2
  go_ret
  exact ⟨rfl, H1.out⟩
set_option maxHeartbeats 4000000 in
theorem lastOf_any (c : List Int) (a : Option Addr) (ca : Nat) (w : World) (h' : RowN w (.slice a c.length ca) c) :
    Calls Tryd.prog 35 #[.slice a c.length ca] w fun e w' => e = .returned (.int .i64 (c.getLastD 1)) ∧ Below w.heap.size w w' := by
  have hl := h'.len
  go_enter Tryd.func35, Tryd.ntmps35
  rcases List.eq_nil_or_concat c with e | ⟨l, z, e⟩
  · subst e
    clear h'
    go_wp2
    go_ret
    exact ⟨rfl, Below.refl _ _⟩
  · rw [List.concat_eq_append] at e
    have hcl : c.length = l.length + 1 := by rw [e]; simp
    obtain ⟨b, o, cap', z', e2, hs, hcell⟩ := h'.at (k := l.length) (by omega)
    have hz : z' = z := by rw [e] at hs; simpa using hs.symm
    have HE : Hid (c.getLastD 1 = z) := by show _ = _; rw [e]; simp
    simp only [Value.slice.injEq, true_and] at e2
    obtain ⟨rfl, rfl⟩ := e2
    rw [hz] at hcell
    obtain ⟨n, hn⟩ : ∃ n, n = c.length := ⟨_, rfl⟩
    obtain ⟨m, hm⟩ : ∃ m, m = l.length := ⟨_, rfl⟩
    rw [← hm] at hcell hcl
    rw [← hn] at hcl hl ⊢
    have h1 : ((n : Int) == 0) = false := by simp; omega
    have h2 : (n : Int) - 1 = (m : Int) := by omega
    have h3 : (m : Int) < (n : Int) := by omega
    have h4 : m < n := by omega
    clear hs e hz h' hn hm
    have H5 : Hid (n = m + 1) := hcl
    clear hcl
    go_wp2
    go_ret
    exact ⟨by rw [HE.out]; rfl, Below.refl _ _⟩
end Go.Proofs.YtibjmokhkjklkaaDoor
namespace Go.Proofs.YtibjmokhkjklkaaDoor
open Go.ChangeShapes Go.WideShapes Go.ChangeAt Go.RowKit Go.Joins
section
variable {H : Type} {enc : TypeId × Value → H} {W : World} {base : Nat} {spare : Nat → Bool} {held : Bool}
set_option maxRecDepth 100000 in
theorem openNs {r : Reach} {b0 : Nat} {v : Value} {d : DataW H} {p : List MemPlace} (hv : Value.okWide Tryd.prog W r b0 24 v) (h : DataW.Trod enc Tryd.prog W base spare held 24 v d p) : ∃ zs, RowN W v zs := by
  obtain ⟨a, len, cap, rfl⟩ := okWide_slice Tryd.underlying24 hv
  obtain ⟨fuel, hf⟩ := h
  rcases open_ints Tryd.underlying24 Tryd.underlying2 (by kernel_rfl) hf with ⟨hcs, _⟩ | ⟨x, l, c, zs, hcs, _, hl, hm, hz, _, hcell, hwz⟩
  · simp [Value.cells] at hcs
    obtain ⟨rfl, rfl, rfl⟩ := hcs
    exact ⟨[], ⟨_, _, rfl, fun hn => absurd rfl hn⟩, by simp⟩
  · simp [Value.cells] at hcs
    obtain ⟨rfl, rfl, rfl⟩ := hcs
    have hz' : len ≤ zs.length := by
      have h9 : zs.length = if spare x.block = true then cap else len := by simpa using hz
      rw [h9]
      split <;> omega
    have hlen : (zs.take len).length = len := by rw [List.length_take]; omega
    unfold maxLen at hm
    refine ⟨zs.take len, ⟨_, _, by rw [hlen], fun hn => ?_⟩, by rw [hlen]; omega⟩
    obtain ⟨b, off, spot⟩ := x
    have hpos : 0 < len := by
      rcases Nat.eq_zero_or_pos len with e | g
      · exact absurd (List.eq_nil_of_length_eq_zero (by rw [hlen, e])) hn
      · exact g
    have h0 := hcell 0 (by omega)
    have hspot : spot = none := by simpa [Addr.add] using World.cell?_spot h0
    subst hspot
    refine ⟨b, off, rfl, fun i z hi => ?_⟩
    have hil := (List.getElem?_eq_some_iff.1 hi).1
    rw [hlen] at hil
    rw [List.getElem?_take_of_lt hil] at hi
    have h1 := hcell i (by omega)
    rw [fl_addr] at h1
    rw [h1]
    congr 2
    rw [List.getD_eq_getElem?_getD, hi]
    rfl
end
end Go.Proofs.YtibjmokhkjklkaaDoor
