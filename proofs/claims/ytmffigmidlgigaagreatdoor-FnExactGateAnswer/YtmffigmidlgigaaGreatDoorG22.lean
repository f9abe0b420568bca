/- Texts of ours put together: OpenOu, OpenGt, MaSn. -/
import Derived.Test.YtmffigmidlgigaaGreatDoorG20
import Derived.Test.YtmffigmidlgigaaGreatDoorG05
import Derived.Test.YtmffigmidlgigaaGreatDoorG06
import Derived.Test.YtmffigmidlgigaaGreatDoorG21
import Derived.Test.YtmffigmidlgigaaGreatDoorG01
namespace Go.Proofs.YtmffigmidlgigaaGreatDoor
open Go.ChangeShapes Go.WideShapes Go.ChangeAt Go.RowKit Go.Joins Go.Deep
theorem cellsOu : Tryz.prog.cellsOf 98 = 5 := by kernel_rfl
theorem cellssOu : Tryz.prog.cellsOf 29 = 1 := by kernel_rfl
theorem lstOu {α : Type} {l : List α} (h : l.length = 5) : ∃ a0 a1 a2 a3 a4, l = [a0, a1, a2, a3, a4] := by
  match l, h with
  | [a0, a1, a2, a3, a4], _ => exact ⟨a0, a1, a2, a3, a4, rfl⟩
section
variable {H : Type} {enc : TypeId × Value → H} {W : World} {base : Nat} {spare : Nat → Bool} {held : Bool}
theorem openOu {fuel : Nat} {cs : List Value} {x : DataW H × List MemPlace} (h : DataW.trod enc Tryz.prog W base spare held fuel 98 cs = some x) :
    ∃ r : OutR, cs = [.string r.partner, .int .i64 r.number, .string r.text, .int .i64 r.tries, .int .i64 r.due] ∧ r.partner.size ≤ 9223372036854775807 ∧ r.text.size ≤ 9223372036854775807 := by
  obtain ⟨xs, n, rfl, hx, hl, hn, hf⟩ := DataW.trod_struct Tryz.underlying98 h
  rw [cellsOu] at hl
  obtain ⟨c0, c1, c2, c3, c4, rfl⟩ := lstOu hl
  obtain ⟨x0, x1, x2, x3, x4, rfl⟩ := lstOu (show xs.length = 5 from hn)
  obtain ⟨n0, k0, _, z0⟩ := DataW.trod_string Tryz.underlying9 (hf 0 _ rfl)
  obtain ⟨n1, k1, _, _⟩ := DataW.trod_int Tryz.underlying2 (hf 1 _ rfl)
  obtain ⟨n2, k2, _, z2⟩ := DataW.trod_string Tryz.underlying9 (hf 2 _ rfl)
  obtain ⟨n3, k3, _, _⟩ := DataW.trod_int Tryz.underlying2 (hf 3 _ rfl)
  obtain ⟨n4, k4, _, _⟩ := DataW.trod_int Tryz.underlying2 (hf 4 _ rfl)
  simp [cellsI64, cellsString] at k0 k1 k2 k3 k4
  unfold maxLen at z0 z2
  exact ⟨⟨n0, n1, n2, n3, n4⟩, by rw [k0, k1, k2, k3, k4], z0, z2⟩
theorem openOus {fuel : Nat} {cs : List Value} {x : DataW H × List MemPlace} (h : DataW.trod enc Tryz.prog W base spare held fuel 29 cs = some x) : ∃ v rs, cs = [v] ∧ RowOu W v rs := by
  rcases open_slice Tryz.underlying29 h with ⟨rfl, _⟩ | ⟨a, len, cap, m, n, D, Pl, rfl, _, hl, hm, hmm, _, hx⟩
  · exact ⟨_, [], rfl, RowOu.nil W⟩
  · have hlm : len ≤ m := by rw [hmm]; split <;> omega
    have inh : Inhabited OutR := ⟨⟨⟨#[]⟩, 0, ⟨#[]⟩, 0, 0⟩⟩
    obtain ⟨f, hf⟩ := choose_lt (α := OutR) (p := fun i l => (W.cell? ((a.add (i * 5)).add 0) = some (.string l.partner) ∧ W.cell? ((a.add (i * 5)).add 1) = some (.int .i64 l.number) ∧ W.cell? ((a.add (i * 5)).add 2) = some (.string l.text) ∧ W.cell? ((a.add (i * 5)).add 3) = some (.int .i64 l.tries) ∧ W.cell? ((a.add (i * 5)).add 4) = some (.int .i64 l.due)) ∧ l.partner.size ≤ 9223372036854775807 ∧ l.text.size ≤ 9223372036854775807) (n := len) (fun i hi => by
      obtain ⟨cs', h1, h2⟩ := hx i (by omega)
      rw [cellsOu] at h1
      obtain ⟨l, rfl, hz⟩ := openOu h2
      have k := (World.cells?_some h1).2.2
      have k0 := k 0 (by omega)
      have k1 := k 1 (by omega)
      have k2 := k 2 (by omega)
      have k3 := k 3 (by omega)
      have k4 := k 4 (by omega)
      refine ⟨l, ⟨⟨?_, ?_, ?_, ?_, ?_⟩, hz⟩⟩
      · simpa using k0
      · simpa using k1
      · simpa using k2
      · simpa using k3
      · simpa using k4)
    have htl : ((List.range len).map f).length = len := by simp
    unfold maxLen at hm
    have hget : ∀ (i : Nat) (g : OutR), ((List.range len).map f)[i]? = some g → i < len ∧ g = f i := fun i g hi => by
      have hil := (List.getElem?_eq_some_iff.1 hi).1
      rw [htl] at hil
      exact ⟨hil, by simpa [hil] using hi.symm⟩
    refine ⟨_, (List.range len).map f, rfl, ⟨⟨some a, cap, by rw [htl], fun hn => ?_⟩, by omega, fun i g hi => by obtain ⟨hil, rfl⟩ := hget i g hi; exact (hf i hil).2⟩⟩
    obtain ⟨b, off, spot⟩ := a
    have hpos : 0 < len := by
      rcases Nat.eq_zero_or_pos len with rfl | g
      · exact absurd (by simp) hn
      · exact g
    have h0 := (hf 0 hpos).1.1
    have hspot : spot = none := by simpa [Addr.add] using World.cell?_spot h0
    subst hspot
    refine ⟨b, off, rfl, fun i g hi => ?_⟩
    obtain ⟨hil, rfl⟩ := hget i g hi
    obtain ⟨⟨k0, k1, k2, k3, k4⟩, _⟩ := hf i hil
    rw [fl_addr, fl_addr] at k0 k1 k2 k3 k4
    exact ⟨k0, k1, k2, k3, k4⟩
set_option maxRecDepth 100000 in
theorem openOua {r : Reach} {b0 : Nat} {v : Value} {d : DataW H} {p : List MemPlace} (hv : Value.okWide Tryz.prog W r b0 98 v) (h : DataW.Trod enc Tryz.prog W base spare held 98 v d p) :
    ∃ q : OutR, v = .agg #[.string q.partner, .int .i64 q.number, .string q.text, .int .i64 q.tries, .int .i64 q.due] ∧ q.partner.size ≤ 9223372036854775807 ∧ q.text.size ≤ 9223372036854775807 := by
  obtain ⟨cs, rfl, hsz⟩ := okWide_struct Tryz.underlying98 hv
  obtain ⟨fuel, hf0⟩ := h
  obtain ⟨q, hq, hz⟩ := openOu hf0
  refine ⟨q, ?_, hz⟩
  obtain ⟨l⟩ := cs
  simp [Value.cells] at hq
  rw [hq]
set_option maxRecDepth 100000 in
theorem openOusa {r : Reach} {b0 : Nat} {v : Value} {d : DataW H} {p : List MemPlace} (hv : Value.okWide Tryz.prog W r b0 29 v) (h : DataW.Trod enc Tryz.prog W base spare held 29 v d p) :
    ∃ rs, RowOu W v rs := by
  obtain ⟨a, l, c, rfl⟩ := okWide_slice Tryz.underlying29 hv
  obtain ⟨fuel, hf0⟩ := h
  obtain ⟨v', rs, e, hR⟩ := openOus hf0
  simp [Value.cells] at e
  subst e
  exact ⟨rs, hR⟩
end
end Go.Proofs.YtmffigmidlgigaaGreatDoor
namespace Go.Proofs.YtmffigmidlgigaaGreatDoor
open Go.ChangeShapes Go.WideShapes Go.ChangeAt Go.RowKit Go.Joins Go.Deep
theorem cellsGt : Tryz.prog.cellsOf 31 = 8 := by kernel_rfl
theorem lst8 {α : Type} {l : List α} (h : l.length = 8) : ∃ a0 a1 a2 a3 a4 a5 a6 a7, l = [a0, a1, a2, a3, a4, a5, a6, a7] := by
  match l, h with
  | [a0, a1, a2, a3, a4, a5, a6, a7], _ => exact ⟨a0, a1, a2, a3, a4, a5, a6, a7, rfl⟩
theorem lst7 {α : Type} {l : List α} (h : l.length = 7) : ∃ a0 a1 a2 a3 a4 a5 a6, l = [a0, a1, a2, a3, a4, a5, a6] := by
  match l, h with
  | [a0, a1, a2, a3, a4, a5, a6], _ => exact ⟨a0, a1, a2, a3, a4, a5, a6, rfl⟩
section
variable {H : Type} {enc : TypeId × Value → H} {W : World} {base : Nat} {spare : Nat → Bool} {held : Bool}
theorem openGt {fuel : Nat} {cs : List Value} {x : DataW H × List MemPlace} (h : DataW.trod enc Tryz.prog W base spare held fuel 31 cs = some x) :
    ∃ (g : Gat) (up uc us ul ud uo : Value), cs = [.string g.name, .int .i64 g.day, up, uc, us, ul, ud, uo] ∧ RGt W up uc us ul ud uo g := by
  obtain ⟨xs, n, rfl, hx, hl, hn, hf⟩ := DataW.trod_struct Tryz.underlying31 h
  rw [cellsGt] at hl
  obtain ⟨c0, c1, c2, c3, c4, c5, c6, c7, rfl⟩ := lst8 hl
  obtain ⟨x0, x1, x2, x3, x4, x5, x6, rfl⟩ := lst7 (show xs.length = 7 from hn)
  obtain ⟨n0, k0, _, z0⟩ := DataW.trod_string Tryz.underlying9 (hf 0 _ rfl)
  obtain ⟨n1, k1, _, _⟩ := DataW.trod_int Tryz.underlying2 (hf 1 _ rfl)
  obtain ⟨u2, l2, k2, r2⟩ := opensPt (hf 2 _ rfl)
  obtain ⟨u3, l3, k3, r3⟩ := openCss (hf 3 _ rfl)
  obtain ⟨b4, u4, v4, k4, r4⟩ := openBk (hf 4 _ rfl)
  obtain ⟨u5, l5, k5, r5⟩ := openDfs (hf 5 _ rfl)
  obtain ⟨u6, l6, k6, r6⟩ := openOus (hf 6 _ rfl)
  simp [cellsI64, cellsString, cellssPt, cellssCs, cellsBk, cellssDf, cellssOu] at k0 k1 k2 k3 k4 k5 k6
  unfold maxLen at z0
  exact ⟨⟨n0, n1, l2, l3, b4, l5, l6⟩, u2, u3, u4, v4, u5, u6, by rw [k0, k1, k2, k3, k4.1, k4.2, k5, k6], ⟨z0, r2, r3, r4, r5, r6⟩⟩
set_option maxRecDepth 100000 in
theorem openGta {r : Reach} {b0 : Nat} {v : Value} {d : DataW H} {p : List MemPlace} (hv : Value.okWide Tryz.prog W r b0 31 v) (h : DataW.Trod enc Tryz.prog W base spare held 31 v d p) :
    ∃ (g : Gat) (up uc us ul ud uo : Value), v = .agg #[.string g.name, .int .i64 g.day, up, uc, us, ul, ud, uo] ∧ RGt W up uc us ul ud uo g := by
  obtain ⟨cs, rfl, hsz⟩ := okWide_struct Tryz.underlying31 hv
  obtain ⟨fuel, hf0⟩ := h
  obtain ⟨g, u1, u2, u3, u4, u5, u6, hq, hR⟩ := openGt hf0
  refine ⟨g, u1, u2, u3, u4, u5, u6, ?_, hR⟩
  obtain ⟨l⟩ := cs
  simp [Value.cells] at hq
  rw [hq]
end
end Go.Proofs.YtmffigmidlgigaaGreatDoor
namespace Go.Proofs.YtmffigmidlgigaaGreatDoor
open Go.ChangeShapes Go.WideShapes Go.ChangeAt Go.RowKit
/-- What the marks make of it. -/
def mkSn (k : Int) (i : Nat) : Sn := ⟨(k + ((i * 3 + 0 : Nat) : Int)), (k + ((i * 3 + 1 : Nat) : Int)), (k + ((i * 3 + 2 : Nat) : Int))⟩
def mkSns (k : Int) (n : Nat) : List Sn := (List.range n).map (mkSn k)
theorem mkSns_len (k : Int) (n : Nat) : (mkSns k n).length = n := by simp [mkSns]
theorem mkSns_at {k : Int} {n i : Nat} {g : Sn} (h : (mkSns k n)[i]? = some g) : i < n ∧ g = mkSn k i := by
  have hi := (List.getElem?_eq_some_iff.1 h).1
  rw [mkSns_len] at hi
  refine ⟨hi, ?_⟩
  simpa [mkSns, hi] using h.symm
set_option maxHeartbeats 2000000 in
theorem markSns_any (b : Nat) (v : Value) (rs : List Sn) (k : Int) (w : World) (h : LSn b w v rs) (hk : 0 ≤ k ∧ k + (rs.length * 3 : Nat) ≤ 9000000000000000000) :
    Calls Tryz.prog 79 #[v, .int .i64 k] w fun e w' => e = .returned (.int .i64 (k + (rs.length * 3 : Nat))) ∧ LSn b w' v (mkSns k rs.length) ∧ Keep b w w' := by
  have hlen := h.len
  obtain ⟨a, cap, rfl⟩ := h.val
  rcases Nat.eq_zero_or_pos rs.length with h0 | h0
  · have hnil : rs = [] := List.eq_nil_of_length_eq_zero h0
    subst hnil
    obtain ⟨_, _, e, _⟩ := h.shape
    clear h
    go_enter Tryz.func79, Tryz.ntmps79
    go_wp2
    go_loopw [1, 5] (fun q i wr => q = .int .i64 k ∧ i = .int .i64 0 ∧ wr = w) (fun _ _ _ => 0)
    case atStart => exact ⟨rfl, rfl, rfl⟩
    case round =>
      obtain ⟨rfl, rfl, rfl⟩ := hrel
      go_wp2
      go_ret
      exact ⟨by simp, ⟨⟨_, _, rfl, fun h => absurd rfl h⟩, by simp [mkSns]⟩, Keep.refl _ _⟩
  · obtain ⟨a', cap', e, hc⟩ := h.shape
    simp only [Value.slice.injEq, true_and] at e
    obtain ⟨rfl, rfl⟩ := e
    obtain ⟨rfl, m, f, hR, hm, hf⟩ := hc (by intro g; rw [g] at h0; simp at h0)
    have HR : Hid (w.rowIs b 140 m f ∧ ∀ (i : Nat) (g : Sn), rs[i]? = some g → f (i * 3) = .int .i64 g.number ∧ f (i * 3 + 1) = .int .i64 g.answer ∧ f (i * 3 + 2) = .int .i64 g.code) := ⟨hR, hf⟩
    clear h hR hf hc
    go_enter Tryz.func79, Tryz.ntmps79
    go_wp2
    go_loopw [1, 5] (fun q i wr => ∃ (j : Nat) (f : Nat → Value), q = .int .i64 (k + (j * 3 : Nat)) ∧ i = .int .i64 (j : Int) ∧ j ≤ rs.length ∧ wr.rowIs b 140 m f ∧ (∀ i, i < rs.length → ∀ c, c < 3 → ∃ z, f (i * 3 + c) = .int .i64 z) ∧ (∀ i, i < j → f (i * 3) = .int .i64 (k + ((i * 3 + 0 : Nat) : Int)) ∧ f (i * 3 + 1) = .int .i64 (k + ((i * 3 + 1 : Nat) : Int)) ∧ f (i * 3 + 2) = .int .i64 (k + ((i * 3 + 2 : Nat) : Int))) ∧ Keep b w wr) (fun _ i _ => rs.length - (intOf i).toNat)
    case atStart =>
      refine ⟨0, f, by simp, rfl, by omega, HR.out.1, fun i hi c hc => ?_, fun i hi => by omega, Keep.refl _ _⟩
      obtain ⟨e0, e1, e2⟩ := HR.out.2 i _ (List.getElem?_eq_getElem hi)
      match c, hc with
      | 0, _ => exact ⟨_, e0⟩
      | 1, _ => exact ⟨_, e1⟩
      | 2, _ => exact ⟨_, e2⟩
    case round =>
      obtain ⟨j, f, rfl, rfl, hj, hR, hI, hA, hK⟩ := hrel
      by_cases hlt : j < rs.length
      · have hlt' : (j : Int) < (rs.length : Int) := by omega
        obtain ⟨z0, e0⟩ := hI j hlt 0 (by omega)
        have e0' : f (j * 3) = .int .i64 z0 := e0
        have k0 := hR.cell (i := j * 3) (by omega)
        rw [e0'] at k0
        obtain ⟨z1, e1⟩ := hI j hlt 1 (by omega)
        have e1' : f (j * 3 + 1) = .int .i64 z1 := e1
        have k1 := hR.cell (i := j * 3 + 1) (by omega)
        rw [e1'] at k1
        obtain ⟨z2, e2⟩ := hI j hlt 2 (by omega)
        have e2' : f (j * 3 + 2) = .int .i64 z2 := e2
        have k2 := hR.cell (i := j * 3 + 2) (by omega)
        rw [e2'] at k2
        have hfz := hR.frozen
        have HS : Hid (wr.rowIs b 140 m f ∧ (∀ i, i < rs.length → ∀ c, c < 3 → ∃ z, f (i * 3 + c) = .int .i64 z) ∧ (∀ i, i < j → f (i * 3) = .int .i64 (k + ((i * 3 + 0 : Nat) : Int)) ∧ f (i * 3 + 1) = .int .i64 (k + ((i * 3 + 1 : Nat) : Int)) ∧ f (i * 3 + 2) = .int .i64 (k + ((i * 3 + 2 : Nat) : Int))) ∧ Keep b w wr) := ⟨hR, hI, hA, hK⟩
        clear hR hI hA hK e0 e0' e1 e1' e2 e2'
        go_wp2
        go_roundw
        case rel =>
          refine ⟨j + 1, _, by go_num, by go_num, by omega, (((HS.out.1.set (j * 3) _).set (j * 3 + 1) _).set (j * 3 + 2) _), fun i hi c hc => ?_, fun i hi => ?_, (((HS.out.2.2.2.setCell _ _).setCell _ _).setCell _ _)⟩
          · repeat' split
            all_goals first | exact ⟨_, rfl⟩ | exact HS.out.2.1 i hi c hc
          · by_cases e1 : i = j
            · subst e1
              refine ⟨?_, ?_, ?_⟩
              · rw [if_neg (by omega), if_neg (by omega), if_pos rfl]
                congr 1 <;> omega
              · rw [if_neg (by omega), if_pos rfl]
                congr 1 <;> omega
              · rw [if_pos rfl]
                congr 1 <;> omega
            · obtain ⟨r0, r1, r2⟩ := HS.out.2.2.1 i (by omega)
              refine ⟨?_, ?_, ?_⟩
              all_goals rw [if_neg (by omega), if_neg (by omega), if_neg (by omega)]
              all_goals assumption
        case measure => simp [intOf]; omega
      · obtain rfl : j = rs.length := by omega
        have HS : Hid (wr.rowIs b 140 m f ∧ (∀ i, i < rs.length → f (i * 3) = .int .i64 (k + ((i * 3 + 0 : Nat) : Int)) ∧ f (i * 3 + 1) = .int .i64 (k + ((i * 3 + 1 : Nat) : Int)) ∧ f (i * 3 + 2) = .int .i64 (k + ((i * 3 + 2 : Nat) : Int))) ∧ Keep b w wr) := ⟨hR, hA, hK⟩
        clear hR hI hA hK
        go_wp2
        go_ret
        refine ⟨rfl, ⟨⟨_, _, by rw [mkSns_len], fun _ => ⟨rfl, m, f, HS.out.1, by rw [mkSns_len]; exact hm, fun i g hg => ?_⟩⟩, by rw [mkSns_len]; omega⟩, HS.out.2.2⟩
        obtain ⟨hi, rfl⟩ := mkSns_at hg
        exact HS.out.2.1 i hi
end Go.Proofs.YtmffigmidlgigaaGreatDoor
