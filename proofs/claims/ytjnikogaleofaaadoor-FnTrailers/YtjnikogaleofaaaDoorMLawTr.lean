/- FnTrailers returns true at every two texts and leaves them as they were: a drawn right interchange, one of whose trailers tells another count, is refused for its sum at that trailer, and its head is told. Conditions: none but what the card ties. -/
import Derived.Test.YtjnikogaleofaaaDoorG38
import Derived.Test.YtjnikogaleofaaaDoorG42
import Derived.Test.YtjnikogaleofaaaDoorG36
import Derived.Test.YtjnikogaleofaaaDoorG49
import Derived.Test.YtjnikogaleofaaaDoorG50
import Derived.LaidLaws
import Derived.Deep.RegionHeld3
import Derived.Deep.RegionLaw
import Derived.Deep.AppendLies
import Derived.Test.YtjnikogaleofaaaDoorCards
import Derived.Test.YtjnikogaleofaaaDoorTie
import Derived.Lib.SmallJoins
import Derived.OpenVars
import Derived.Stop.Joined
import Derived.LaidMore
import Derived.SevenTiedAt
import Derived.Lay
import Derived.MakeChecks
namespace Go.Proofs.YtjnikogaleofaaaDoor
open Go.ChangeShapes Go.WideShapes Go.ChangeAt Go.RowKit Go.Joins
open Go.ChangeMaps (open_string shut_string)
set_option linter.unusedVariables false
namespace fnTrailers
def IsRow (k : IntKind) (w : World) (a : Option Addr) (len cap : Nat) (zs : List Int) : Prop :=
  (a = none ∧ len = 0 ∧ cap = 0 ∧ zs = []) ∨
  ∃ x, a = some x ∧ len ≤ cap ∧ cap ≤ maxLen ∧ zs.length = cap ∧ (∀ i, i < zs.length → w.cell? (x.add i) = some (.int k (zs.getD i 0))) ∧ ∀ n ∈ zs, (Lit.int k n).wf = true
theorem IsRow.bytesAt {w : World} {a : Option Addr} {len cap : Nat} {zs : List Int} (h : IsRow .u8 w a len cap zs) : BytesAt w a len zs := by
  intro g
  rcases h with ⟨_, rfl, _, _⟩ | ⟨x, rfl, hl, _, hz, hc, _⟩
  · omega
  · obtain ⟨b, off, spot⟩ := x
    have h0 := hc 0 (by omega)
    have hspot : spot = none := by simpa [Addr.add] using World.cell?_spot h0
    subst hspot
    refine ⟨b, off, rfl, fun i hi => ?_⟩
    have hplain : (⟨b, off, none⟩ : Addr).add i = ⟨b, off + i, none⟩ := by unfold Addr.add; split <;> simp_all
    have := hc i (by omega)
    rw [hplain] at this
    simpa [List.getD] using this
theorem IsRow.len_le {w : World} {a : Option Addr} {len cap : Nat} {zs : List Int} (h : IsRow .u8 w a len cap zs) : len ≤ 9223372036854775807 := by
  rcases h with ⟨_, rfl, _, _⟩ | ⟨x, rfl, hl, hm, hz, hc, _⟩
  · omega
  · unfold maxLen at hm
    omega
def ByteOne (w : World) (a : Option Addr) (len : Nat) : Prop := len ≠ 0 → ∃ b off n, a = some ⟨b, off, none⟩ ∧ w.cell? ⟨b, off, none⟩ = some (.int .u8 n) ∧ 0 ≤ n ∧ n ≤ 255
theorem IsRow.one {w : World} {a : Option Addr} {len cap : Nat} {zs : List Int} (h : IsRow .u8 w a len cap zs) : ByteOne w a len := by
  intro g
  rcases h with ⟨_, rfl, _, _⟩ | ⟨x, rfl, hl, _, hz, hc, hw⟩
  · omega
  · obtain ⟨b, off, spot⟩ := x
    have h0 := hc 0 (by omega)
    have hspot : spot = none := by simpa [Addr.add] using World.cell?_spot h0
    subst hspot
    have hplain : (⟨b, off, none⟩ : Addr).add 0 = ⟨b, off, none⟩ := by unfold Addr.add; split <;> simp_all
    rw [hplain] at h0
    refine ⟨b, off, _, rfl, h0, ?_⟩
    have hm : zs.getD 0 0 ∈ zs := by
      rw [List.getD_eq_getElem?_getD, List.getElem?_eq_getElem (by omega), Option.getD_some]
      exact List.getElem_mem _
    have := hw _ hm
    simp only [Lit.wf, Bool.and_eq_true, decide_eq_true_eq] at this
    exact this
theorem ByteOne.below {w w' : World} {a : Option Addr} {len : Nat} (h : ByteOne w a len) (hb : Below w.heap.size w w') : ByteOne w' a len := by
  intro g
  obtain ⟨b, off, n, e, hc, hn⟩ := h g
  exact ⟨b, off, n, e, (hb.cell (p := ⟨b, off, none⟩) (cell_lt hc)).trans hc, hn⟩
set_option maxHeartbeats 2000000 in
theorem lwAt_any (a : Option Addr) (len cap : Nat) (most : Int) (w : World) (hl : len ≤ 1048576) (hr : ByteOne w a len) (hm : 1 < most) (hm2 : most ≤ 1000) :
    Calls Tryd.prog 7 #[.slice a len cap, .int .i64 0, .int .i64 most] w fun e w' => ∃ k : Int, e = .returned (.int .i64 k) ∧ 0 ≤ k ∧ k < most ∧ Below w.heap.size w w' := by
  have hm' : ¬ most ≤ 1 := by omega
  by_cases h0 : len = 0
  · subst h0
    go_enter Tryd.func7, Tryd.ntmps7
    go_wp2
    go_ret
    exact ⟨_, rfl, by omega, by omega, Below.refl _ _⟩
  · obtain ⟨b, off, n, rfl, hc, hn0, hn1⟩ := hr h0
    have h1 : ((len : Int) == 0) = false := by rw [beq_eq_false_iff_ne]; omega
    have h2 : (0 : Int) < (len : Int) := by omega
    have h3 : ¬ most = 0 := by omega
    clear hr
    go_enter Tryd.func7, Tryd.ntmps7
    go_wp2
    go_ret
    exact ⟨_, rfl, Int.emod_nonneg n (by omega), Int.emod_lt_of_pos n (by omega), Below.refl _ _⟩
theorem tPow : (Tryd.prog.globals[2]?).map (·.type) = some 123 := by kernel_rfl
theorem errs {W : World} (hL : laidMetH Tryd.prog Rows.fnTrailersRow.laid W) : ErrsAt W ∧ TabOk W := by
  rw [MakeChecks.laidMetH_plain _ _ _ (by kernel_rfl)] at hL
  have h2 := laidMet.tail (laidMet.tail hL)
  have h3 := laidMet.tail h2
  exact ⟨⟨err_at (laidMet.tail h3) gSyn tSyn, err_at h3 gRng tRng⟩, Lib.tabIs_of_head gPow tPow Tryd.underlying123 Tryd.underlying69 (by kernel_rfl) (by kernel_rfl) h2⟩
set_option maxRecDepth 20000 in
set_option maxHeartbeats 8000000 in
theorem walk (a0 : Option Addr) (len0 cap0 : Nat) (z0 : List Int) (a1 : Option Addr) (len1 cap1 : Nat) (z1 : List Int) (w : World) (w0 : IsRow .u8 w a0 len0 cap0 z0) (w1 : IsRow .u8 w a1 len1 cap1 z1) (hL : laidMetH Tryd.prog Rows.fnTrailersRow.laid w) :
    Calls Tryd.prog 3 #[.slice a0 len0 cap0, .slice a1 len1 cap1] w fun e w' => e = .returned (.bool true) ∧ Below w.heap.size w w' := by
  have hl0 := w0.len_le
  have hl1 := w1.len_le
  have HE : Hid (ErrsAt w ∧ TabOk w) := errs hL
  have HR : Hid (BytesAt w a0 len0 z0 ∧ ByteOne w a1 len1) := ⟨w0.bytesAt, w1.one⟩
  clear w0 w1 hL
  by_cases hg : 1048576 < len0
  · have hg' : (1048576 : Int) < (len0 : Int) := by omega
    clear HR
    go_enter Tryd.func3, Tryd.ntmps3
    go_wp2
    go_ret
    exact ⟨rfl, Below.refl _ _⟩
  have hg' : (len0 : Int) ≤ 1048576 := by omega
  by_cases hh : 1048576 < len1
  · have hh' : (1048576 : Int) < (len1 : Int) := by omega
    clear HR
    go_enter Tryd.func3, Tryd.ntmps3
    go_wp2
    go_ret
    exact ⟨rfl, Below.refl _ _⟩
  have hh' : (len1 : Int) ≤ 1048576 := by omega
  go_enter Tryd.func3, Tryd.ntmps3
  go_wp2_with fail
  refine (drawIx_any a0 len0 cap0 z0 w (by omega) HR.out.1).mono ?_
  rintro e w2 ⟨x, v, rfl, hI, hB, hlen, hzf, hzt, hb2⟩
  obtain ⟨Av, Cv, hv⟩ := hI.ls.val
  subst hv
  have hbx : Below w2.heap.size w2 (w2.alloc (.cells #[.string x.frm, .string x.to, .int .i64 x.num, .slice Av x.buns.length Cv] 25)) := (Below.refl _ _).alloc (Nat.le_refl _) _
  have hx0 := World.alloc_heap_new w2 (.cells #[.string x.frm, .string x.to, .int .i64 x.num, .slice Av x.buns.length Cv] 25)
  have H3 : Hid (RI (w2.alloc (.cells #[.string x.frm, .string x.to, .int .i64 x.num, .slice Av x.buns.length Cv] 25)) (.slice Av x.buns.length Cv) x ∧ BdI 1048576 x ∧ Below w.heap.size w (w2.alloc (.cells #[.string x.frm, .string x.to, .int .i64 x.num, .slice Av x.buns.length Cv] 25)) ∧ (w2.alloc (.cells #[.string x.frm, .string x.to, .int .i64 x.num, .slice Av x.buns.length Cv] 25)).heap[w2.heap.size]? = some (.cells #[.string x.frm, .string x.to, .int .i64 x.num, .slice Av x.buns.length Cv] 25)) := ⟨hI.below hbx, hB, hb2.trans (hbx.mono hb2.size), hx0⟩
  have y0 := cell_of_row _ w2.heap.size 0 _ _ _ hx0
  have y1 := cell_of_row _ w2.heap.size 1 _ _ _ hx0
  have y2 := cell_of_row _ w2.heap.size 2 _ _ _ hx0
  have y3 := cell_of_row _ w2.heap.size 3 _ _ _ hx0
  clear hI hB hb2 hbx hx0
  go_wp2_with fail
  generalize hX : w2.heap.size = X at *
  generalize (w2.alloc (.cells #[.string x.frm, .string x.to, .int .i64 x.num, .slice Av x.buns.length Cv] 25)) = W3 at *
  refine (ixRight_spec x _ _ H3.out.1 H3.out.2.1).mono ?_
  rintro e w4 ⟨rfl, hb4⟩
  have hx4 := (hb4.block X (Array.getElem?_eq_some_iff.1 H3.out.2.2.2).1).trans H3.out.2.2.2
  have H4 : Hid (RI w4 (.slice Av x.buns.length Cv) x ∧ BdI 1048576 x ∧ Below w.heap.size w w4 ∧ w4.heap[X]? = some (.cells #[.string x.frm, .string x.to, .int .i64 x.num, .slice Av x.buns.length Cv] 25)) := ⟨H3.out.1.below hb4, H3.out.2.1, H3.out.2.2.1.trans (hb4.mono H3.out.2.2.1.size), hx4⟩
  have z0 := cell_of_row _ X 0 _ _ _ hx4
  have z1 := cell_of_row _ X 1 _ _ _ hx4
  have z2 := cell_of_row _ X 2 _ _ _ hx4
  have z3 := cell_of_row _ X 3 _ _ _ hx4
  clear hb4 hx4 H3 y0 y1 y2 y3
  cases hx : ixB x
  · go_wp2
    go_ret
    exact ⟨rfl, H4.out.2.2.1⟩
  go_wp2_with fail
  refine (ixSegments_spec x _ _ H4.out.1 H4.out.2.1).mono ?_
  rintro e w5 ⟨u, ps, rfl, hO, hb5⟩
  have hseg : ixSegsR x = ixSegs x := by simp [ixSegsR, hx]
  have hbd := ixSegsR_bd x
  rw [hseg] at hO hbd
  obtain ⟨L, hLL⟩ : ∃ L, ixSegs x = L := ⟨_, rfl⟩
  have HLL : Hid (ixSegs x = L ∧ BdLg L ∧ ixB x = true) := ⟨hLL, by rw [← hLL]; exact hbd.1, hx⟩
  have h2L : 2 ≤ L.length := by rw [← hLL]; simp only [ixSegs, List.length_cons, List.length_append, List.length_nil]; omega
  rw [hLL] at hO hlen
  obtain ⟨n, hn⟩ : ∃ n, L.length = n := ⟨_, rfl⟩
  obtain ⟨b, C, hu⟩ : ∃ b C, u = .slice (some ⟨b, 0, none⟩) n C := by
    rcases hO.row.2 with ⟨e1, h0⟩ | ⟨g1, cap1, cur1, e1, _⟩
    · omega
    · exact ⟨g1, cap1, by rw [e1, hn]⟩
  subst hu
  have hx5 := (hb5.block X (Array.getElem?_eq_some_iff.1 H4.out.2.2.2).1).trans H4.out.2.2.2
  have H5 : Hid (OwnL w4.heap.size w5 (.slice (some ⟨b, 0, none⟩) n C) ps L ∧ L.length = n ∧ Below w.heap.size w w5 ∧ w5.heap[X]? = some (.cells #[.string x.frm, .string x.to, .int .i64 x.num, .slice Av x.buns.length Cv] 25)) := ⟨hO, hn, H4.out.2.2.1.trans (hb5.mono H4.out.2.2.1.size), hx5⟩
  have hn2 : (2 : Int) ≤ (n : Int) := by omega
  have hn3 : (n : Int) ≤ 344 := by omega
  have hn0 : ¬ ((n : Int) = 0) := by omega
  clear hO hb5 hx5 H4 hseg hbd hLL h2L hlen hn z0 z1 z2 z3 hx
  go_wp2_with fail
  go_loopw [8, 9, 10, 11, 12, 13] (fun c _ _ _ _ _ wr => ∃ k : Nat, c = .int .i64 (k : Int) ∧ k ≤ n ∧ Below w5.heap.size w5 wr) (fun c _ _ _ _ _ _ => n - (intOf c).toNat)
  case atStart => exact ⟨0, rfl, by omega, Below.refl _ _⟩
  case round =>
    obtain ⟨k, rfl, hk, hbr⟩ := hrel
    have HB : Hid (Below w5.heap.size w5 wr) := hbr
    clear hbr
    by_cases hkn : k < n
    · have hkn' : (k : Int) < (n : Int) := by omega
      go_wp2_with fail
      refine (lwAt_any a1 len1 cap1 (n : Int) _ (by omega) (HR.out.2.below (H5.out.2.2.1.trans (HB.out.mono H5.out.2.2.1.size))) (by omega) (by omega)).mono ?_
      rintro e w6 ⟨q, rfl, hq0, hq1, hb6⟩
      have H6 : Hid (Below w5.heap.size w5 w6) := HB.out.trans (hb6.mono HB.out.size)
      clear hb6
      go_upto_region 12 with fail
      obtain ⟨i, hi, hin⟩ : ∃ i : Nat, (q + (k : Int)) % (n : Int) = (i : Int) ∧ i < n := by
        have e1 := Int.emod_nonneg (q + (k : Int)) hn0
        have e2 := Int.emod_lt_of_pos (q + (k : Int)) (b := (n : Int)) (by omega)
        exact ⟨((q + (k : Int)) % (n : Int)).toNat, by omega, by omega⟩
      rw [hi]
      have HI : Hid ((q + (k : Int)) % (n : Int) = (i : Int)) := hi
      clear hi
      obtain ⟨tg, es, p, hLi, hpi⟩ : ∃ tg es p, L[i]? = some (tg, es) ∧ ps[i]? = some p := by
        have h1 : i < L.length := by rw [H5.out.2.1]; exact hin
        exact ⟨_, _, _, List.getElem?_eq_getElem h1, List.getElem?_eq_getElem (by rw [H5.out.1.len]; exact h1)⟩
      obtain ⟨Ap, Np, Cp, hp1⟩ := row_slice (H5.out.1.segs i p (tg, es) hpi hLi).row
      have HF : Hid (∀ W, Below w5.heap.size w5 W → W.cell? ⟨b, i * 2, none⟩ = some (.string tg) ∧ W.cell? ⟨b, i * 2 + 1, none⟩ = some (.slice Ap Np Cp) ∧ RowE W (.slice Ap Np Cp) es) := fun W hW => by
        have hO := H5.out.1.below hW
        obtain ⟨k1, k2⟩ := cellsL_get hLi hpi
        have h1 := hO.row.cells (g := b) rfl _ _ k1
        have h2 := hO.row.cells (g := b) rfl _ _ k2
        have e1 : ∀ j, (⟨b, 0, none⟩ : Addr).add j = ⟨b, 0 + j, none⟩ := fun j => by unfold Addr.add; split <;> simp_all
        rw [e1, Nat.zero_add] at h1 h2
        obtain ⟨b1, b2, b3⟩ := HLL.out.2.1 (tg, es) (List.mem_of_getElem? hLi)
        have h3 := (hO.segs i p (tg, es) hpi hLi).rowE b1 (by dsimp only at b2 ⊢; omega)
        rw [hp1] at h2 h3
        exact ⟨h1, h2, h3⟩
      have HLi : Hid (L[i]? = some (tg, es) ∧ ps[i]? = some p) := ⟨hLi, hpi⟩
      clear hLi hpi hp1
      obtain ⟨c0, c1, _⟩ := HF.out w6 H6.out
      have hi0 : (0 : Int) ≤ (i : Int) := by omega
      have hin' : (i : Int) < (n : Int) := by omega
      go_upto_region 13 with fail
      go_cut [57] from 48 to 57 (fun c wx => ∃ bb : Bool, c = .bool bb ∧ (bb = false → isTr tg) ∧ Below w5.heap.size w5 wx)
      case first =>
        by_cases g1 : tg = ⟨#[77, 83, 84]⟩
        · subst g1
          go_wp2_with fail
          go_meet
          case rel => exact ⟨false, rfl, fun _ => .inl rfl, H6.out⟩
        · by_cases g2 : tg = ⟨#[71, 82, 84]⟩
          · subst g2
            go_wp2_with fail
            go_meet
            case rel => exact ⟨false, rfl, fun _ => .inr (.inl rfl), H6.out⟩
          · by_cases g3 : tg = ⟨#[73, 88, 84]⟩
            · subst g3
              go_wp2_with fail
              go_meet
              case rel => exact ⟨false, rfl, fun _ => .inr (.inr rfl), H6.out⟩
            · obtain ⟨a1, b1, d1⟩ := toList_neq3 g1
              obtain ⟨a2, b2, d2⟩ := toList_neq3 g2
              obtain ⟨a3, b3, d3⟩ := toList_neq3 g3
              clear g1 g2 g3
              go_wp2_with fail
              go_meet
              case rel => exact ⟨true, rfl, (fun h => by cases h), H6.out⟩
      case rest =>
        obtain ⟨bb, rfl, htr, hbc⟩ := hcut
        have H7 : Hid (Below w5.heap.size w5 wc) := hbc
        clear hbc c0 c1 H6
        cases bb
        · have HT : Hid (isTr tg) := htr rfl
          obtain ⟨sa, sb, hes⟩ := tr_two HLL.out.2.2 (g := (tg, es)) (by rw [HLL.out.1]; exact List.mem_of_getElem? HLi.out.1) HT.out
          dsimp only at hes
          subst hes
          clear htr
          obtain ⟨c0, c1, hEs⟩ := HF.out wc H7.out
          obtain ⟨be, oe, ce, e1, ve, hve, he1, hce, hSe⟩ := hEs.at (k := 1) (by simp)
          simp only [Value.slice.injEq, List.length_cons, List.length_nil, Nat.zero_add, Nat.reduceAdd] at hve
          obtain ⟨rfl, rfl, rfl⟩ := hve
          simp at he1
          subst he1
          obtain ⟨Ae, Ce, hVe⟩ : ∃ A C, ve = .slice A 1 C := by
            obtain ⟨a, cap, e, _⟩ := hSe.shape
            exact ⟨a, cap, e⟩
          subst hVe
          have HS : Hid (RowS wc (.slice Ae 1 Ce) [sb]) := hSe
          clear hEs hSe
          have hbA := H7.out.alloc H7.out.size (.cells #[.string ⟨#[55, 55]⟩] 9)
          obtain ⟨c0', c1', _⟩ := HF.out _ hbA
          have hce' : (wc.alloc (.cells #[.string ⟨#[55, 55]⟩] 9)).cell? ⟨be, oe + 1, none⟩ = some (.slice Ae 1 Ce) := (((Below.refl _ _).alloc (Nat.le_refl _) _).cell (p := ⟨be, oe + 1, none⟩) (cell_lt hce)).trans hce
          go_upto_region 15 with fail
          obtain ⟨W9, hW9⟩ : ∃ W9, ((wc.alloc (.cells #[.string ⟨#[55, 55]⟩] 9)).alloc (.cells #[.slice (some ⟨wc.heap.size, 0, none⟩) 1 1, .slice Ae 1 Ce] 36)).alloc (.cells #[.string tg, .slice (some ⟨wc.heap.size + 1, 0, none⟩) 2 2] 33) = W9 := ⟨_, rfl⟩
          rw [hW9]
          have hz9 : wc.heap.size + 3 ≤ W9.heap.size := by rw [← hW9]; simp
          have hG9 : W9.heap[wc.heap.size + 1 + 1]? = some (.cells #[.string tg, .slice (some ⟨wc.heap.size + 1, 0, none⟩) 2 2] 33) := by
            rw [← hW9]
            have h := World.alloc_heap_new ((wc.alloc (.cells #[.string ⟨#[55, 55]⟩] 9)).alloc (.cells #[.slice (some ⟨wc.heap.size, 0, none⟩) 1 1, .slice Ae 1 Ce] 36)) (.cells #[.string tg, .slice (some ⟨wc.heap.size + 1, 0, none⟩) 2 2] 33)
            rwa [World.size_alloc, World.size_alloc] at h
          have hP2 : W9.heap[wc.heap.size + 1]? = some (.cells #[.slice (some ⟨wc.heap.size, 0, none⟩) 1 1, .slice Ae 1 Ce] 36) := by
            rw [← hW9]
            exact (Below.heap_alloc _ _ _ (by simp)).trans (heap_new2 wc _ _)
          have hP1 : W9.heap[wc.heap.size]? = some (.cells #[.string ⟨#[55, 55]⟩] 9) := by
            rw [← hW9]
            exact (Below.heap_alloc _ _ _ (by simp; omega)).trans ((Below.heap_alloc _ _ _ (by simp)).trans (World.alloc_heap_new wc _))
          have hnC : n ≤ C := by
            have h := H5.out.1.row
            rcases h.2 with ⟨e1, _⟩ | ⟨g1, cap1, cur1, e1, _, _, h4, _⟩
            · cases e1
            · simp only [Value.slice.injEq] at e1
              rw [H5.out.2.1] at h4
              omega
          have hiC : (i : Int) ≤ (C : Int) := by omega
          have hb9c : Below wc.heap.size wc W9 := by rw [← hW9]; exact (((Below.refl _ _).alloc (Nat.le_refl _) _).alloc (by simp) _).alloc (by simp; omega) _
          have hb9 : Below w5.heap.size w5 W9 := H7.out.trans (hb9c.mono H7.out.size)
          have HG : Hid (∀ W, Below W9.heap.size W9 W → W.cell? ⟨wc.heap.size + 1 + 1, 0, none⟩ = some (.string tg) ∧ W.cell? ⟨wc.heap.size + 1 + 1, 1, none⟩ = some (.slice (some ⟨wc.heap.size + 1, 0, none⟩) 2 2)) := fun W hW => by
            have h := (hW.block (wc.heap.size + 1 + 1) (by omega)).trans hG9
            exact ⟨cell_of_row _ _ 0 _ _ _ h, cell_of_row _ _ 1 _ _ _ h⟩
          obtain ⟨g0, g1⟩ := HG.out _ (Below.refl _ _)
          obtain ⟨gE0, gE1⟩ := HG.out _ ((Below.refl W9.heap.size W9).alloc (Nat.le_refl _) (.cells #[] 33))
          obtain ⟨k2, hik, t1, t2, t3⟩ := turned_told (x := x) HLL.out.2.2 (by rw [HLL.out.1, H5.out.2.1]; omega) (i := i) (t := tg) (es := [[sa], [sb]]) (e1 := [sb]) (by rw [HLL.out.1]; exact HLi.out.1) HT.out rfl
          have hi1 : 0 < i := by omega
          have HK : Hid (i = k2 + 1 ∧ hdO (turnL x k2 tg [sb]) = (x.frm, x.to, x.num, true, 0) ∧ (rdAll x.num (turnL x k2 tg [sb])).1 = 5 ∧ (rdAll x.num (turnL x k2 tg [sb])).2.1 = i) := ⟨hik, t1, t2, t3⟩
          have hlp : ps.length = L.length := H5.out.1.len
          have hone : ∀ p ∈ ps, ∃ A N C, p.1 = .slice A N C := fun p hp => by
            obtain ⟨m, hm⟩ := List.mem_iff_getElem?.1 hp
            exact row_slice (H5.out.1.segs m p _ hm (List.getElem?_eq_getElem (by rw [← hlp]; exact (List.getElem?_eq_some_iff.1 hm).1))).row
          have HQ : Hid ((cellsL (L.take i) (ps.take i)).length = i * 2 ∧ (∀ u ∈ cellsL (L.take i) (ps.take i), u.oneCell' = true) ∧ ∀ W, Below W9.heap.size W9 W → ∀ j u, (cellsL (L.take i) (ps.take i))[j]? = some u → W.cell? ((⟨b, 0, none⟩ : Addr).add j) = some u) := by
            refine ⟨?_, cellsL_one fun p hp => hone p (List.mem_of_mem_take hp), fun W hW j u hu => ?_⟩
            · rw [cellsL_len (by rw [List.length_take, List.length_take, hlp]), List.length_take, H5.out.2.1]
              omega
            · exact (H5.out.1.below (hb9.trans (hW.mono hb9.size))).row.cells (g := b) rfl j u (cellsL_takeAt hlp hu)
          have H9 : Hid (Below w5.heap.size w5 W9 ∧ W9.heap[wc.heap.size]? = some (.cells #[.string ⟨#[55, 55]⟩] 9) ∧ W9.heap[wc.heap.size + 1]? = some (.cells #[.slice (some ⟨wc.heap.size, 0, none⟩) 1 1, .slice Ae 1 Ce] 36) ∧ RowS W9 (.slice Ae 1 Ce) [sb]) := ⟨hb9, hP1, hP2, HS.out.below hb9c⟩
          obtain ⟨j0, hj0i, hi0', hi1', hi2'⟩ := info_parts infoSg
          clear hG9 hP2 hP1 hb9 hb9c hik t1 t2 t3 hone hbA c0' c1' hce' hce c0 c1 hW9 hlp HS
          have tE : (W9.alloc (.cells #[] 33)).drew.heap[W9.heap.size]? = some (.cells #[] 33) := World.alloc_heap_new W9 _
          have tEG : ((W9.alloc (.cells #[] 33)).alloc (.cells #[.string tg, .slice (some ⟨wc.heap.size + 1, 0, none⟩) 2 2] 33)).drew.heap[W9.heap.size]? = some (.cells #[] 33) := (Below.heap_alloc (W9.alloc (.cells #[] 33)) (.cells #[.string tg, .slice (some ⟨wc.heap.size + 1, 0, none⟩) 2 2] 33) W9.heap.size (by simp)).trans (World.alloc_heap_new W9 _)
          have tEG' : ((W9.alloc (.cells #[] 33)).alloc (.cells #[.string tg, .slice (some ⟨wc.heap.size + 1, 0, none⟩) 2 2] 33)).drew.heap[W9.heap.size + 1]? = some (.cells #[.string tg, .slice (some ⟨wc.heap.size + 1, 0, none⟩) 2 2] 33) := heap_new2 W9 _ _
          have tGE : ((W9.alloc (.cells #[.string tg, .slice (some ⟨wc.heap.size + 1, 0, none⟩) 2 2] 33)).alloc (.cells #[] 33)).drew.heap[W9.heap.size + 1]? = some (.cells #[] 33) := heap_new2 W9 _ _
          have tGE' : ((W9.alloc (.cells #[.string tg, .slice (some ⟨wc.heap.size + 1, 0, none⟩) 2 2] 33)).alloc (.cells #[] 33)).drew.heap[W9.heap.size]? = some (.cells #[.string tg, .slice (some ⟨wc.heap.size + 1, 0, none⟩) 2 2] 33) := (Below.heap_alloc (W9.alloc (.cells #[.string tg, .slice (some ⟨wc.heap.size + 1, 0, none⟩) 2 2] 33)) (.cells #[] 33) W9.heap.size (by simp)).trans (World.alloc_heap_new W9 _)
          have uE : Below W9.heap.size W9 (W9.alloc (.cells #[] 33)).drew := ((Below.refl W9.heap.size W9).alloc (Nat.le_refl _) _).drew
          have uEG : Below W9.heap.size W9 ((W9.alloc (.cells #[] 33)).alloc (.cells #[.string tg, .slice (some ⟨wc.heap.size + 1, 0, none⟩) 2 2] 33)).drew := (((Below.refl W9.heap.size W9).alloc (Nat.le_refl _) _).alloc (by simp) _).drew
          have uGE : Below W9.heap.size W9 ((W9.alloc (.cells #[.string tg, .slice (some ⟨wc.heap.size + 1, 0, none⟩) 2 2] 33)).alloc (.cells #[] 33)).drew := (((Below.refl W9.heap.size W9).alloc (Nat.le_refl _) _).alloc (by simp) _).drew
          go_cut [12] from 70 to 77 (fun tv wx => ∃ gg cap, tv = .slice (some ⟨gg, 0, none⟩) (i + 1) cap ∧ wx.ownsRow W9.heap.size 33 2 (.slice (some ⟨gg, 0, none⟩) (i + 1) cap) (i + 1) (cellsL (L.take i) (ps.take i) ++ [.string tg, .slice (some ⟨wc.heap.size + 1, 0, none⟩) 2 2]) ∧ Below W9.heap.size W9 wx)
          case first =>
            go_region_law (first | (refine step_append_lies _ (by rfl) _ _ _ (by rfl) W9.heap.size 33 j0 _ 2 40 Tryd.underlying28 hj0i hi0' hi1' hi2' rfl (by omega) (.slice (some ⟨W9.heap.size, 0, none⟩) 0 0) 0 [] (by rfl) (own_empty tE (by omega)) ⟨b, 0, none⟩ i C (cellsL (L.take i) (ps.take i)) (by rfl) HQ.out.1 (HQ.out.2.2 _ uE) HQ.out.2.1 hi1 (by unfold maxLen; omega) (by omega) uE.size _ rfl ?_; intro gg cap w7 hown7 hgrow7 _ hlt7; simp only [Nat.zero_add, List.nil_append] at hown7; have b7 : Below W9.heap.size W9 w7 := below_grown uE hgrow7 (Nat.le_refl _) (fun j e => by simp [Value.ownBlock] at e; omega) uE.size; have H71 : Hid (w7.ownsRow W9.heap.size 33 2 (.slice (some ⟨gg, 0, none⟩) i cap) i (cellsL (L.take i) (ps.take i)) ∧ Below W9.heap.size W9 w7) := ⟨hown7, b7⟩; have hlt7' := b7.size; obtain ⟨g70, g71⟩ := HG.out w7 b7; clear hown7 hgrow7 b7; try dsimp only) | (refine step_append_lies _ (by rfl) _ _ _ (by rfl) W9.heap.size 33 j0 _ 2 40 Tryd.underlying28 hj0i hi0' hi1' hi2' rfl (by omega) (.slice (some ⟨W9.heap.size + 1, 0, none⟩) 0 0) 0 [] (by rfl) (own_empty tGE (by omega)) ⟨b, 0, none⟩ i C (cellsL (L.take i) (ps.take i)) (by rfl) HQ.out.1 (HQ.out.2.2 _ uGE) HQ.out.2.1 hi1 (by unfold maxLen; omega) (by omega) uGE.size _ rfl ?_; intro gg cap w7 hown7 hgrow7 _ hlt7; simp only [Nat.zero_add, List.nil_append] at hown7; have hGb : w7.heap[W9.heap.size]? = some (.cells #[.string tg, .slice (some ⟨wc.heap.size + 1, 0, none⟩) 2 2] 33) := (hgrow7.block (W9.heap.size) (Array.getElem?_eq_some_iff.1 tGE').1 (by simp [Value.ownBlock])).trans tGE'; have b7 : Below W9.heap.size W9 w7 := below_grown uGE hgrow7 (Nat.le_refl _) (fun j e => by simp [Value.ownBlock] at e; omega) uGE.size; have H71 : Hid (w7.ownsRow W9.heap.size 33 2 (.slice (some ⟨gg, 0, none⟩) i cap) i (cellsL (L.take i) (ps.take i)) ∧ Below W9.heap.size W9 w7) := ⟨hown7, b7⟩; have hlt7' := b7.size; obtain ⟨g70, g71⟩ := HG.out w7 b7; clear hown7 hgrow7 b7; try dsimp only) | (refine step_append_lies _ (by rfl) _ _ _ (by rfl) W9.heap.size 33 j0 _ 2 40 Tryd.underlying28 hj0i hi0' hi1' hi2' rfl (by omega) (.slice (some ⟨W9.heap.size, 0, none⟩) 0 0) 0 [] (by rfl) (own_empty tEG (by omega)) ⟨b, 0, none⟩ i C (cellsL (L.take i) (ps.take i)) (by rfl) HQ.out.1 (HQ.out.2.2 _ uEG) HQ.out.2.1 hi1 (by unfold maxLen; omega) (by omega) uEG.size _ rfl ?_; intro gg cap w7 hown7 hgrow7 _ hlt7; simp only [Nat.zero_add, List.nil_append] at hown7; have hGb : w7.heap[W9.heap.size + 1]? = some (.cells #[.string tg, .slice (some ⟨wc.heap.size + 1, 0, none⟩) 2 2] 33) := (hgrow7.block (W9.heap.size + 1) (Array.getElem?_eq_some_iff.1 tEG').1 (by simp [Value.ownBlock])).trans tEG'; have b7 : Below W9.heap.size W9 w7 := below_grown uEG hgrow7 (Nat.le_refl _) (fun j e => by simp [Value.ownBlock] at e; omega) uEG.size; have H71 : Hid (w7.ownsRow W9.heap.size 33 2 (.slice (some ⟨gg, 0, none⟩) i cap) i (cellsL (L.take i) (ps.take i)) ∧ Below W9.heap.size W9 w7) := ⟨hown7, b7⟩; have hlt7' := b7.size; obtain ⟨g70, g71⟩ := HG.out w7 b7; clear hown7 hgrow7 b7; try dsimp only) | (refine step_append_lies _ (by rfl) _ _ _ (by rfl) W9.heap.size 33 j0 _ 2 40 Tryd.underlying28 hj0i hi0' hi1' hi2' rfl (by omega) (.slice (some ⟨gg, 0, none⟩) i cap) i (cellsL (L.take i) (ps.take i)) (by rfl) H71.out.1 ⟨_, 0, none⟩ 1 1 [.string tg, .slice (some ⟨wc.heap.size + 1, 0, none⟩) 2 2] (by rfl) (by rfl) (World.news_of_block hGb) (by simp [Value.oneCell']) (by omega) (by unfold maxLen; omega) (by omega) (by first | omega | (simp; omega)) _ rfl ?_; intro gg2 cap2 w8 hown8 hgrow8 _ hlt8; have b8 : Below W9.heap.size W9 w8 := below_grown H71.out.2 hgrow8 (Nat.le_refl _) (fun j e => (H71.out.1.lt j e).1) (by first | omega | (simp; omega)); have H8 : Hid (w8.ownsRow W9.heap.size 33 2 (.slice (some ⟨gg2, 0, none⟩) (i + 1) cap2) (i + 1) (cellsL (L.take i) (ps.take i) ++ [.string tg, .slice (some ⟨wc.heap.size + 1, 0, none⟩) 2 2]) ∧ Below W9.heap.size W9 w8) := ⟨hown8, b8⟩; clear hown8 hgrow8 b8; try dsimp only) | (refine step_append_lies _ (by rfl) _ _ _ (by rfl) W9.heap.size 33 j0 _ 2 40 Tryd.underlying28 hj0i hi0' hi1' hi2' rfl (by omega) (.slice (some ⟨gg, 0, none⟩) i cap) i (cellsL (L.take i) (ps.take i)) (by rfl) (H71.out.1.alloc _) ⟨_, 0, none⟩ 1 1 [.string tg, .slice (some ⟨wc.heap.size + 1, 0, none⟩) 2 2] (by rfl) (by rfl) (World.news_of_block (World.alloc_heap_new w7 _)) (by simp [Value.oneCell']) (by omega) (by unfold maxLen; omega) (by omega) (by first | omega | (simp; omega)) _ rfl ?_; intro gg2 cap2 w8 hown8 hgrow8 _ hlt8; have b8 : Below W9.heap.size W9 w8 := below_grown (H71.out.2.alloc (by omega) _) hgrow8 (Nat.le_refl _) (fun j e => (H71.out.1.lt j e).1) (by first | omega | (simp; omega)); have H8 : Hid (w8.ownsRow W9.heap.size 33 2 (.slice (some ⟨gg2, 0, none⟩) (i + 1) cap2) (i + 1) (cellsL (L.take i) (ps.take i) ++ [.string tg, .slice (some ⟨wc.heap.size + 1, 0, none⟩) 2 2]) ∧ Below W9.heap.size W9 w8) := ⟨hown8, b8⟩; clear hown8 hgrow8 b8; try dsimp only) | fail)
            all_goals go_wp2_with fail
            all_goals go_meet
            all_goals exact ⟨_, _, rfl, H8.out.1, H8.out.2⟩
          case rest =>
            obtain ⟨gg, cap, rfl, hrow, hbx⟩ := hcut
            rename World => wx
            have HR16 : Hid (wx.ownsRow W9.heap.size 33 2 (.slice (some ⟨gg, 0, none⟩) (i + 1) cap) (i + 1) (cellsL (L.take i) (ps.take i) ++ [.string tg, .slice (some ⟨wc.heap.size + 1, 0, none⟩) 2 2]) ∧ Below W9.heap.size W9 wx) := ⟨hrow, hbx⟩
            have hlp : ps.length = L.length := H5.out.1.len
            have hone : ∀ p ∈ ps, ∃ A N C, p.1 = .slice A N C := fun p hp => by
              obtain ⟨m, hm⟩ := List.mem_iff_getElem?.1 hp
              exact row_slice (H5.out.1.segs m p _ hm (List.getElem?_eq_getElem (by rw [← hlp]; exact (List.getElem?_eq_some_iff.1 hm).1))).row
            have HQ2 : Hid ((cellsL (L.drop (i + 1)) (ps.drop (i + 1))).length = (n - (i + 1)) * 2 ∧ (∀ u ∈ cellsL (L.drop (i + 1)) (ps.drop (i + 1)), u.oneCell' = true) ∧ ∀ j u, (cellsL (L.drop (i + 1)) (ps.drop (i + 1)))[j]? = some u → wx.cell? ((⟨b, (i + 1) * 2, none⟩ : Addr).add j) = some u) := by
              refine ⟨?_, cellsL_one fun p hp => hone p (List.mem_of_mem_drop hp), fun j u hu => ?_⟩
              · rw [cellsL_len (by rw [List.length_drop, List.length_drop, hlp]), List.length_drop, H5.out.2.1]
              · have h1 := (H5.out.1.below (H9.out.1.trans (hbx.mono H9.out.1.size))).row.cells (g := b) rfl _ u (cellsL_dropAt hlp (by rw [H5.out.2.1]; omega) hu)
                have e1 : ∀ a d, (⟨b, a, none⟩ : Addr).add d = ⟨b, a + d, none⟩ := fun a d => by unfold Addr.add; split <;> simp_all
                rw [e1] at h1 ⊢
                rw [Nat.zero_add] at h1
                exact h1
            clear hrow hbx hone hlp tE tEG tEG' tGE tGE' uE uEG uGE HQ HG g0 g1 gE0 gE1
            have hin1 : (i : Int) + 1 ≤ (n : Int) := by omega
            have hnC' : (n : Int) ≤ (C : Int) := by omega
            go_upto_region 16 with fail
            go_cut [12] from 78 to 83 (fun tv wy => wy.ownsRow W9.heap.size 33 2 tv n (cellsL (L.take i) (ps.take i) ++ [.string tg, .slice (some ⟨wc.heap.size + 1, 0, none⟩) 2 2] ++ cellsL (L.drop (i + 1)) (ps.drop (i + 1))) ∧ Below W9.heap.size W9 wy)
            case first =>
              have hnn : i + 1 + (n - (i + 1)) = n := by omega
              have Hnn : Hid (i + 1 + (n - (i + 1)) = n) := hnn
              clear hnn
              have tok1 : True := trivial
              by_cases hCi : C = i + 1
              · have hnil : cellsL (L.drop (i + 1)) (ps.drop (i + 1)) = [] := List.eq_nil_of_length_eq_zero (by rw [HQ2.out.1]; omega)
                have hCt : (C = i + 1) = True := eq_true hCi
                clear hCi
                go_wp2_with (at_builtin; have _t := tok1; refine wpList_append_own _ rfl _ _ 28 rfl W9.heap.size 33 j0 (.agg #[.string ⟨#[]⟩, .slice none 0 0]) 2 40 Tryd.underlying28 hj0i hi0' hi1' hi2' rfl (by decide) _ _ _ rfl HR16.out.1 _ (n - (i + 1)) _ (cellsL (L.drop (i + 1)) (ps.drop (i + 1))) rfl HQ2.out.1 (fun j u hu => by rw [hnil] at hu; simp at hu) HQ2.out.2.1 (by unfold maxLen; omega) (by omega) HR16.out.2.size ?_; intro u' w10 hown' hgrow _; have b10 : Below W9.heap.size W9 w10 := below_grown HR16.out.2 hgrow (Nat.le_refl _) (fun j e => (HR16.out.1.lt j e).1) HR16.out.2.size; have H10 : Hid (w10.ownsRow W9.heap.size 33 2 u' (i + 1 + (n - (i + 1))) (cellsL (L.take i) (ps.take i) ++ [.string tg, .slice (some ⟨wc.heap.size + 1, 0, none⟩) 2 2] ++ cellsL (L.drop (i + 1)) (ps.drop (i + 1))) ∧ Below W9.heap.size W9 w10) := ⟨hown', b10⟩; clear tok1 hown' hgrow b10)
                go_meet
                case rel => exact ⟨by rw [← Hnn.out]; exact H10.out.1, H10.out.2⟩
              · go_wp2_with (at_builtin; have _t := tok1; refine wpList_append_own _ rfl _ _ 28 rfl W9.heap.size 33 j0 (.agg #[.string ⟨#[]⟩, .slice none 0 0]) 2 40 Tryd.underlying28 hj0i hi0' hi1' hi2' rfl (by decide) _ _ _ rfl HR16.out.1 _ (n - (i + 1)) _ (cellsL (L.drop (i + 1)) (ps.drop (i + 1))) rfl HQ2.out.1 HQ2.out.2.2 HQ2.out.2.1 (by unfold maxLen; omega) (by omega) HR16.out.2.size ?_; intro u' w10 hown' hgrow _; have b10 : Below W9.heap.size W9 w10 := below_grown HR16.out.2 hgrow (Nat.le_refl _) (fun j e => (HR16.out.1.lt j e).1) HR16.out.2.size; have H10 : Hid (w10.ownsRow W9.heap.size 33 2 u' (i + 1 + (n - (i + 1))) (cellsL (L.take i) (ps.take i) ++ [.string tg, .slice (some ⟨wc.heap.size + 1, 0, none⟩) 2 2] ++ cellsL (L.drop (i + 1)) (ps.drop (i + 1))) ∧ Below W9.heap.size W9 w10) := ⟨hown', b10⟩; clear tok1 hown' hgrow b10)
                go_meet
                case rel => exact ⟨by rw [← Hnn.out]; exact H10.out.1, H10.out.2⟩
            case rest =>
              obtain ⟨hrow, hby⟩ := hcut
              rename World => wy
              obtain ⟨At, Ct, hut⟩ := row_slice_any hrow
              subst hut
              have hwy5 : Below w5.heap.size w5 wy := H9.out.1.trans (hby.mono H9.out.1.size)
              have hP1 := (hby.block _ (Array.getElem?_eq_some_iff.1 H9.out.2.1).1).trans H9.out.2.1
              have hP2 := (hby.block _ (Array.getElem?_eq_some_iff.1 H9.out.2.2.1).1).trans H9.out.2.2.1
              have hEu : RowE wy (.slice (some ⟨wc.heap.size + 1, 0, none⟩) 2 2) [[⟨#[55, 55]⟩], [sb]] := rowE_two hP1 hP2 (H9.out.2.2.2.below hby) (by decide)
              obtain ⟨b1, b2, b3⟩ := HLL.out.2.1 (tg, [[sa], [sb]]) (List.mem_of_getElem? HLi.out.1)
              dsimp only at b1 b2 b3
              have hsb : sb.size ≤ 40 := (b1 [sb] (by simp)).2 sb (by simp)
              have h0 := hrow
              rw [HK.out.1, ← H5.out.2.1] at h0
              have hk2 : k2 + 1 < L.length := by rw [H5.out.2.1, ← HK.out.1]; exact hin
              have hLn : L.length ≤ 344 := by rw [H5.out.2.1]; omega
              have hRG : RowG wy (.slice At L.length Ct) (turnL x k2 tg [sb]) := by
                have hOy := H5.out.1.below hwy5
                have h := turn_row (gs := L) (ps := ps) (k := k2) (t := tg) (es := [[⟨#[55, 55]⟩], [sb]]) H5.out.1.len hk2 (by omega) h0 (fun j p g hp hg => by
                  obtain ⟨d1, d2, d3⟩ := HLL.out.2.1 g (List.mem_of_getElem? hg)
                  exact ⟨(hOy.segs j p g hp hg).rowE d1 (by omega), by omega⟩) hEu (by omega)
                unfold turnL
                rw [HLL.out.1]
                exact h
              have hBd : ∀ g ∈ turnL x k2 tg [sb], g.1.size ≤ 1048576 ∧ BdE 1048576 g.2 := by
                unfold turnL
                rw [HLL.out.1]
                refine turn_bd HLL.out.2.1 k2 (by omega) ⟨by simp, fun j e hj => ?_⟩
                have hj2 : j = 0 ∨ j = 1 := by
                  have := (List.getElem?_eq_some_iff.1 hj).1
                  simp at this
                  omega
                rcases hj2 with rfl | rfl
                · simp at hj
                  subst hj
                  refine ⟨by simp, fun m s hm => ?_⟩
                  have h1 := List.mem_of_getElem? hm
                  simp only [List.mem_cons, List.not_mem_nil, or_false] at h1
                  rw [h1]
                  decide
                · simp at hj
                  subst hj
                  refine ⟨by simp, fun m s hm => ?_⟩
                  have h1 := List.mem_of_getElem? hm
                  simp only [List.mem_cons, List.not_mem_nil, or_false] at h1
                  rw [h1]
                  omega
              have hlT : (turnL x k2 tg [sb]).length ≤ 1000000 := by
                rw [turnL_len (by rw [HLL.out.1]; exact hk2), HLL.out.1]
                omega
              have hwy : Below w.heap.size w wy := H5.out.2.2.1.trans (hwy5.mono H5.out.2.2.1.size)
              have HY : Hid (RowG wy (.slice At n Ct) (turnL x k2 tg [sb]) ∧ (∀ g ∈ turnL x k2 tg [sb], g.1.size ≤ 1048576 ∧ BdE 1048576 g.2) ∧ ErrsAt wy ∧ TabOk wy ∧ (turnL x k2 tg [sb]).length ≤ 1000000 ∧ Below w5.heap.size w5 wy) := ⟨by rw [← H5.out.2.1]; exact hRG, hBd, HE.out.1.below hwy, HE.out.2.below hwy, hlT, hwy5⟩
              clear hrow hby hwy5 hP1 hP2 hEu b1 b2 b3 h0 hk2 hLn hRG hBd hlT hwy hsb H9 HR16 HQ2 hin1 hnC' hnC hiC hin' hi0 hin
              go_wp2_with fail
              refine (ixRead_impl _ (turnL x k2 tg [sb]) _ HY.out.1 HY.out.2.1 HY.out.2.2.1 HY.out.2.2.2.1 HY.out.2.2.2.2.1).mono ?_
              rintro e w11 ⟨hO, hb11⟩
              have he : e = .returned (.agg #[.string x.frm, .string x.to, .int .i64 x.num, .slice none 0 0, .bool true, .int .i64 (i : Int), .int .i64 5]) := by
                unfold RdOut at hO
                rw [HK.out.2.1] at hO
                dsimp only at hO
                rw [HK.out.2.2.1, HK.out.2.2.2] at hO
                rcases hO with ⟨h, _⟩ | ⟨_, ⟨_, h⟩ | ⟨h, _⟩⟩
                · cases h
                · exact h
                · cases h
              subst he
              have h11 : Below w5.heap.size w5 w11 := HY.out.2.2.2.2.2.trans (hb11.mono HY.out.2.2.2.2.2.size)
              have H11 : Hid (∀ W, Below w11.heap.size w11 W → Below w.heap.size w W ∧ W.cell? ⟨X, 0, none⟩ = some (.string x.frm) ∧ W.cell? ⟨X, 2, none⟩ = some (.int .i64 x.num)) := fun W hW => by
                have h5 := h11.trans (hW.mono h11.size)
                have hx := (h5.block X (Array.getElem?_eq_some_iff.1 H5.out.2.2.2).1).trans H5.out.2.2.2
                exact ⟨H5.out.2.2.1.trans (h5.mono H5.out.2.2.1.size), cell_of_row _ _ 0 _ _ _ hx, cell_of_row _ _ 2 _ _ _ hx⟩
              clear hO hb11 h11
              obtain ⟨hbf, x0, x2⟩ := H11.out _ ((Below.refl w11.heap.size w11).alloc (Nat.le_refl _) (.cells #[.string x.frm, .string x.to, .int .i64 x.num, .slice none 0 0, .bool true, .int .i64 (i : Int), .int .i64 5] 38))
              have HBF : Hid (Below w.heap.size w (w11.alloc (.cells #[.string x.frm, .string x.to, .int .i64 x.num, .slice none 0 0, .bool true, .int .i64 (i : Int), .int .i64 5] 38))) := hbf
              clear hbf
              go_wp2
              go_ret
              exact ⟨rfl, HBF.out⟩
        · go_wp2
          go_roundw
          case rel => exact ⟨k + 1, by go_num, by omega, H7.out⟩
          case measure => simp [intOf]; omega
    · obtain rfl : k = n := by omega
      go_wp2
      go_ret
      exact ⟨rfl, H5.out.2.2.1.trans (HB.out.mono H5.out.2.2.1.size)⟩
theorem own : ownKnob Tryd.prog.godebug = none := by kernel_rfl
theorem laidOut : laidOutB Tryd.prog = true := by kernel_rfl
theorem door_met (os : Os) (args : Array Value) : laidMetH Tryd.prog Rows.fnTrailersRow.laid ((World.doorLaid Tryd.prog 62 os).forCall (fun _ _ => 0) ⟨#[], args, []⟩).memory :=
  laidMetH_of_parts3 (fuel := 8) (laidMet_of_run' 8 (by kernel_rfl) (by kernel_rfl)) (by kernel_rfl) (by kernel_rfl)
set_option maxRecDepth 100000 in
theorem lifted (os : Os) (started : os.Started) (H : Type) (enc : TypeId × Value → H) :
    ReturnsInHanded {} Tryd.checked os 3 .any (fun w args => (Rows.fnTrailersSpec.pre enc Tryd.prog Tryd.f3 [] false w args ∧ laidMetH Tryd.prog Rows.fnTrailersRow.laid w) ∧ sizedMet enc Tryd.prog Tryd.f3 (OpenSpec.ofChange Rows.fnTrailersSpec) false w args)
      (Rows.fnTrailersSpec.post enc Tryd.prog Tryd.f3 false true false false) := by
  refine returnsInHanded_of_change_and (C := Tryd.checked) (X := fun w _ => laidMetH Tryd.prog Rows.fnTrailersRow.laid w) (fun _ _ _ hh h => h.of_heap hh) own started (by kernel_rfl) Tryd.func3
    (ChangeSpec.witness_shaped (enc := enc) (C := Tryd.checked) (os := os) (X := fun w _ => laidMetH Tryd.prog Rows.fnTrailersRow.laid w) false (World.doorLaid Tryd.prog 62 os) #[.slice none 0 0, .slice none 0 0] 8 rfl (World.shaped_of_RefB (by kernel_rfl) (by kernel_rfl)) (by kernel_rfl) (by kernel_rfl) (by kernel_rfl) (door_met os _)) ?_
  intro W base args ds gs before hval0 hW hcnd _ hL _
  have hval : ∀ (j : Nat) t v, Tryd.f3.params[j]? = some t → args[j]? = some v → Value.okWide Tryd.prog W .any base t v := hval0
  have hW' := hW
  obtain ⟨p, q, hA0, hV, rfl, hfz, hnd⟩ := hW
  have hA : DataW.TrodAll enc Tryd.prog W 0 (fun _ => true) true Tryd.f3.params.toList args.toList ds p := hA0
  rw [Tryd.params3] at hA hval
  obtain ⟨v0, vs0, d0, ds0, p0, q0, hargs, rfl, rfl, h0, r0⟩ := trodAll_cons hA
  obtain ⟨v1, vs1, d1, ds1, p1, q1, rfl, rfl, rfl, h1, r1⟩ := trodAll_cons r0
  obtain ⟨rfl, rfl, rfl⟩ := trodAll_nil r1
  obtain rfl : args = #[v0, v1] := by cases args; simp_all
  obtain ⟨rfl, rfl⟩ := trodVars_none hV
  have k0 := h0
  have lt0 : ∀ x ∈ p0, x.block < W.heap.size := by obtain ⟨m, hm⟩ := k0; exact DataW.trod_lt m _ _ _ hm
  obtain ⟨a0, len0, cap0, rfl⟩ := okWide_slice Tryd.underlying22 (hval 0 22 v0 rfl rfl)
  obtain ⟨z0, w0⟩ : ∃ zs, IsRow .u8 W a0 len0 cap0 zs := by
    obtain ⟨fuel, hf⟩ := h0
    rcases open_ints Tryd.underlying22 Tryd.underlying5 (by kernel_rfl) hf with ⟨hcs, _⟩ | ⟨x, l, c, zs, hcs, _, hl, hm, hz, _, hcell, hwz⟩
    · simp [Value.cells] at hcs
      obtain ⟨rfl, rfl, rfl⟩ := hcs
      exact ⟨[], .inl ⟨rfl, rfl, rfl, rfl⟩⟩
    · simp [Value.cells] at hcs
      obtain ⟨rfl, rfl, rfl⟩ := hcs
      exact ⟨zs, .inr ⟨_, rfl, hl, hm, by simpa using hz, hcell, hwz⟩⟩
  have k1 := h1
  have lt1 : ∀ x ∈ p1, x.block < W.heap.size := by obtain ⟨m, hm⟩ := k1; exact DataW.trod_lt m _ _ _ hm
  obtain ⟨a1, len1, cap1, rfl⟩ := okWide_slice Tryd.underlying22 (hval 1 22 v1 rfl rfl)
  obtain ⟨z1, w1⟩ : ∃ zs, IsRow .u8 W a1 len1 cap1 zs := by
    obtain ⟨fuel, hf⟩ := h1
    rcases open_ints Tryd.underlying22 Tryd.underlying5 (by kernel_rfl) hf with ⟨hcs, _⟩ | ⟨x, l, c, zs, hcs, _, hl, hm, hz, _, hcell, hwz⟩
    · simp [Value.cells] at hcs
      obtain ⟨rfl, rfl, rfl⟩ := hcs
      exact ⟨[], .inl ⟨rfl, rfl, rfl, rfl⟩⟩
    · simp [Value.cells] at hcs
      obtain ⟨rfl, rfl, rfl⟩ := hcs
      exact ⟨zs, .inr ⟨_, rfl, hl, hm, by simpa using hz, hcell, hwz⟩⟩
  clear hA0 hval0
  refine (walk a0 len0 cap0 z0 a1 len1 cap1 z1 W w0 w1 hL).mono fun e W' ⟨he, bel⟩ => ?_
  subst he
  exact ⟨_, rfl, _, _, _, [], _, [], hW', trodAll_mk1 (shut_bool Tryd.underlying4 _), (trodAll_cons_mk (Below.trod laidOut (by kernel_rfl) (of_decide_eq_true (by kernel_rfl)) k0 bel lt0) (trodAll_cons_mk (Below.trod laidOut (by kernel_rfl) (of_decide_eq_true (by kernel_rfl)) k1 bel lt1) trodAll_mk0)), rfl, bel.frame _, fun h => by cases h⟩
theorem over : Rows.fnTrailersRow.holds Tryd.pinned (OpenSpec.ofChange Rows.fnTrailersSpec) :=
  OpenClaim.holds_of_wide 3 Tryd.f3 rfl rfl rfl rfl rfl rfl rfl ⟨rfl, rfl, rfl, rfl, rfl⟩ rfl rfl rfl rfl rfl (by kernel_rfl) Tryd.func3 (by kernel_rfl)
    (of_decide_eq_true (by kernel_rfl)) (by unfold Func.isWrapper; first | (rw [if_pos (by decide +kernel)]; kernel_rfl) | (rw [if_neg (by decide +kernel)]; exact ⟨rfl, rfl⟩))
    (fun os started H enc _ => lifted os started H enc)
theorem card : Rows.FnTrailersCardSaid :=
  Claim7.holds_tied_plain_at .later [] [.data, .data, .data, .sentinel, .sentinel] true (true, "b5a2e71e0d3b24d9695ee8c2c5c83ed5fc25050e8c762510c562f91903fc224f") true
    over (fun _ h => by cases h) (by kernel_rfl) (fun _ h => by cases h) fnTrailers_row_tie rfl ⟨rfl, rfl⟩ (by kernel_rfl) rfl
    (fun f fn hf hfn => by
      obtain rfl : f = 3 := Option.some.inj ((show Tryd.prog.funcNamed "loop.example/g00096/laws.FnTrailers" = some 3 by kernel_rfl).symm.trans hf) |>.symm
      obtain rfl : fn = Tryd.f3 := (Option.some.inj (Tryd.func3.symm.trans hfn)).symm
      exact ⟨by kernel_rfl, fun j t ht => by
        rw [Tryd.params3] at ht
        have hj : Tryd.prog.wantsStandIn t = false := by
          rcases j with _ | j
          · have e : t = 22 := by simpa using ht.symm
            subst e
            exact (show Tryd.prog.wantsStandIn 22 = false by kernel_rfl)
          rcases j with _ | j
          · have e : t = 22 := by simpa using ht.symm
            subst e
            exact (show Tryd.prog.wantsStandIn 22 = false by kernel_rfl)
          simp at ht
        exact hj⟩)
    (by kernel_rfl)
end fnTrailers
theorem fnTrailers_holds : Rows.FnTrailersCardSaid := fnTrailers.card
#print axioms fnTrailers_holds
end Go.Proofs.YtjnikogaleofaaaDoor
