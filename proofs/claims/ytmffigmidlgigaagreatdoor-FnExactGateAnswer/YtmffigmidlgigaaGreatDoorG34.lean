/- Texts of ours put together: RowLi, MkLi. -/
import Derived.Test.YtmffigmidlgigaaGreatDoorG01
import Derived.Test.YtmffigmidlgigaaGreatDoorG23
import Derived.Deep.RegionHeld3
import Derived.Deep.QuietTactic
import Derived.BigQuiet
import Derived.BigRegion
namespace Go.Proofs.YtmffigmidlgigaaGreatDoor
open Go.ChangeShapes Go.WideShapes Go.ChangeAt Go.RowKit
/-- A Line. -/
structure LinR where
  no : Int
  item : ByteArray
  qty : Int
  money : Int
  note : ByteArray
/-- Its cells. -/
def AtLi (W : World) (b o : Nat) (g : LinR) : Prop :=
  W.cell? ⟨b, o, none⟩ = some (.int .i64 g.no) ∧ W.cell? ⟨b, o + 1, none⟩ = some (.string g.item) ∧ W.cell? ⟨b, o + 2, none⟩ = some (.int .i64 g.qty) ∧ W.cell? ⟨b, o + 3, none⟩ = some (.int .i64 g.money) ∧ W.cell? ⟨b, o + 4, none⟩ = some (.string g.note)
theorem AtLi.below {W W' : World} {b o : Nat} {g : LinR} (h : AtLi W b o g) (hb : Below W.heap.size W W') : AtLi W' b o g := by
  obtain ⟨h0, h1, h2, h3, h4⟩ := h
  exact ⟨(hb.cell (cell_lt h0)).trans h0, (hb.cell (cell_lt h1)).trans h1, (hb.cell (cell_lt h2)).trans h2, (hb.cell (cell_lt h3)).trans h3, (hb.cell (cell_lt h4)).trans h4⟩
/-- A list of such. -/
structure RowLi (W : World) (v : Value) (rs : List LinR) : Prop where
  shape : ∃ a cap, v = .slice a rs.length cap ∧ (rs ≠ [] → ∃ b o, a = some ⟨b, o, none⟩ ∧ ∀ (i : Nat) (g : LinR), rs[i]? = some g → AtLi W b (o + i * 5) g)
  len : rs.length ≤ 9223372036854775807
  sizes : ∀ (i : Nat) (g : LinR), rs[i]? = some g → g.item.size ≤ 9223372036854775807 ∧ g.note.size ≤ 9223372036854775807
theorem RowLi.below {W W' : World} {v : Value} {rs : List LinR} (h : RowLi W v rs) (hb : Below W.heap.size W W') : RowLi W' v rs := by
  obtain ⟨a, cap, e, hc⟩ := h.shape
  refine ⟨⟨a, cap, e, fun hn => ?_⟩, h.len, h.sizes⟩
  obtain ⟨b, o, ea, hcell⟩ := hc hn
  exact ⟨b, o, ea, fun i g hi => (hcell i g hi).below hb⟩
theorem RowLi.at {W : World} {v : Value} {rs : List LinR} (h : RowLi W v rs) {k : Nat} (hk : k < rs.length) : ∃ b o cap g, v = .slice (some ⟨b, o, none⟩) rs.length cap ∧ rs[k]? = some g ∧ AtLi W b (o + k * 5) g ∧ g.item.size ≤ 9223372036854775807 ∧ g.note.size ≤ 9223372036854775807 := by
  obtain ⟨a, cap, e, hc⟩ := h.shape
  obtain ⟨b, o, rfl, hcell⟩ := hc (by intro g; rw [g] at hk; simp at hk)
  have hs : rs[k]? = some rs[k] := List.getElem?_eq_getElem hk
  exact ⟨b, o, cap, _, e, hs, hcell k _ hs, h.sizes k _ hs⟩
theorem RowLi.val {W : World} {v : Value} {rs : List LinR} (h : RowLi W v rs) : ∃ a cap, v = .slice a rs.length cap := by
  obtain ⟨a, cap, e, _⟩ := h.shape
  exact ⟨a, cap, e⟩
theorem RowLi.nil (W : World) : RowLi W (.slice none 0 0) [] := ⟨⟨none, 0, rfl, fun h => absurd rfl h⟩, by simp, fun i g hi => by simp at hi⟩
def BdLi (n : Nat) (rs : List LinR) : Prop := rs.length ≤ n ∧ ∀ (i : Nat) (g : LinR), rs[i]? = some g → g.item.size ≤ n ∧ g.note.size ≤ n
theorem BdLi.mono {m n : Nat} {rs : List LinR} (h : BdLi m rs) (hmn : m ≤ n) : BdLi n rs := ⟨Nat.le_trans h.1 hmn, fun i g hi => by
  have := h.2 i g hi
  omega⟩
theorem BdLi.len {n : Nat} {rs : List LinR} (h : BdLi n rs) : rs.length ≤ n := h.1
/-- A list in a block of its own, b, whose row may be longer; nil if it has none. -/
structure LLi (b : Nat) (W : World) (v : Value) (rs : List LinR) : Prop where
  shape : ∃ a cap, v = .slice a rs.length cap ∧ (rs ≠ [] → a = some ⟨b, 0, none⟩ ∧ ∃ (n : Nat) (f : Nat → Value), W.rowIs b 64 n f ∧ rs.length * 5 ≤ n ∧ ∀ (i : Nat) (g : LinR), rs[i]? = some g → f (i * 5) = .int .i64 g.no ∧ f (i * 5 + 1) = .string g.item ∧ f (i * 5 + 2) = .int .i64 g.qty ∧ f (i * 5 + 3) = .int .i64 g.money ∧ f (i * 5 + 4) = .string g.note)
  len : rs.length ≤ 9223372036854775807
  sizes : ∀ (i : Nat) (g : LinR), rs[i]? = some g → g.item.size ≤ 9223372036854775807 ∧ g.note.size ≤ 9223372036854775807
theorem LLi.row {b : Nat} {W : World} {v : Value} {rs : List LinR} (h : LLi b W v rs) : RowLi W v rs := by
  obtain ⟨a, cap, e, hc⟩ := h.shape
  refine ⟨⟨a, cap, e, fun hn => ?_⟩, h.len, h.sizes⟩
  obtain ⟨ea, m, f, hR, hm, hf⟩ := hc hn
  refine ⟨b, 0, ea, fun i g hi => ?_⟩
  have hlt := (List.getElem?_eq_some_iff.1 hi).1
  obtain ⟨e0, e1, e2, e3, e4⟩ := hf i g hi
  have c0 := hR.cell (i := i * 5) (by omega)
  rw [e0] at c0
  have c1 := hR.cell (i := i * 5 + 1) (by omega)
  rw [e1] at c1
  have c2 := hR.cell (i := i * 5 + 2) (by omega)
  rw [e2] at c2
  have c3 := hR.cell (i := i * 5 + 3) (by omega)
  rw [e3] at c3
  have c4 := hR.cell (i := i * 5 + 4) (by omega)
  rw [e4] at c4
  rw [Nat.zero_add]
  exact ⟨c0, c1, c2, c3, c4⟩
theorem LLi.of_block {b : Nat} {W W' : World} {v : Value} {rs : List LinR} (h : LLi b W v rs) (hb : rs ≠ [] → W'.heap[b]? = W.heap[b]?) : LLi b W' v rs := by
  obtain ⟨a, cap, e, hc⟩ := h.shape
  refine ⟨⟨a, cap, e, fun hn => ?_⟩, h.len, h.sizes⟩
  obtain ⟨ea, m, f, hR, hm, hf⟩ := hc hn
  exact ⟨ea, m, f, hR.of_block (hb hn), hm, hf⟩
theorem LLi.lt {b : Nat} {W : World} {v : Value} {rs : List LinR} (h : LLi b W v rs) (hn : rs ≠ []) : b < W.heap.size := by
  obtain ⟨a, cap, e, hc⟩ := h.shape
  obtain ⟨ea, m, f, hR, hm, hf⟩ := hc hn
  exact hR.lt
theorem LLi.below {b : Nat} {W W' : World} {v : Value} {rs : List LinR} (h : LLi b W v rs) (hb : Below W.heap.size W W') : LLi b W' v rs := h.of_block fun hn => hb.block b (h.lt hn)
theorem LLi.keep {b c : Nat} {W W' : World} {v : Value} {rs : List LinR} (h : LLi b W v rs) (hb : Keep c W W') (hne : b ≠ c) : LLi b W' v rs := h.of_block fun hn => hb.block b (h.lt hn) hne
theorem LLi.nil (b : Nat) (W : World) : LLi b W (.slice none 0 0) [] := ⟨⟨none, 0, rfl, fun h => absurd rfl h⟩, by simp, fun i g hi => by simp at hi⟩
theorem LLi.val {b : Nat} {W : World} {v : Value} {rs : List LinR} (h : LLi b W v rs) : ∃ a cap, v = .slice a rs.length cap := by
  obtain ⟨a, cap, e, _⟩ := h.shape
  exact ⟨a, cap, e⟩
end Go.Proofs.YtmffigmidlgigaaGreatDoor
namespace Go.Proofs.YtmffigmidlgigaaGreatDoor
open Go.ChangeShapes Go.WideShapes Go.ChangeAt Go.RowKit
/-- What the marks make of it. -/
def mkLi (k i : Nat) : LinR := ⟨((k + i * 5 : Nat) : Int), mtB (k + i * 5 + 1), ((k + i * 5 + 2 : Nat) : Int), ((k + i * 5 + 3 : Nat) : Int), mtB (k + i * 5 + 4)⟩
def mkLis (k n : Nat) : List LinR := (List.range n).map (mkLi k)
theorem mkLis_len (k n : Nat) : (mkLis k n).length = n := by simp [mkLis]
theorem mkLis_at {k n i : Nat} {g : LinR} (h : (mkLis k n)[i]? = some g) : i < n ∧ g = mkLi k i := by
  have hi := (List.getElem?_eq_some_iff.1 h).1
  rw [mkLis_len] at hi
  refine ⟨hi, ?_⟩
  simpa [mkLis, hi] using h.symm
theorem mkLis_sizes {k n : Nat} : ∀ (i : Nat) (g : LinR), (mkLis k n)[i]? = some g → g.item.size ≤ 9223372036854775807 ∧ g.note.size ≤ 9223372036854775807 := fun i g h => by
  obtain ⟨_, rfl⟩ := mkLis_at h
  have h1 := mtB_size (k + i * 5 + 1)
  have h4 := mtB_size (k + i * 5 + 4)
  simp only [mkLi]
  omega
set_option maxRecDepth 20000 in
set_option maxHeartbeats 8000000 in
theorem markLi_any (b : Nat) (v : Value) (rs : List LinR) (k : Nat) (w : World) (h : LLi b w v rs) (hk : 0 < k ∧ k + rs.length * 5 < 1000000000000) :
    Calls Tryz.prog 45 #[v, .int .i64 (k : Int)] w fun e w' => e = .returned (.int .i64 ((k + rs.length * 5 : Nat) : Int)) ∧ LLi b w' v (mkLis k rs.length) ∧ Keep b w w' := by
  have hlen := h.len
  obtain ⟨a, cap, rfl⟩ := h.val
  rcases Nat.eq_zero_or_pos rs.length with h0 | h0
  · have hnil : rs = [] := List.eq_nil_of_length_eq_zero h0
    subst hnil
    clear h
    go_enter Tryz.func45, Tryz.ntmps45
    go_wp2
    go_loopw [1, 5] (fun q i wr => q = .int .i64 (k : Int) ∧ i = .int .i64 0 ∧ wr = w) (fun _ _ _ => 0)
    case atStart => exact ⟨rfl, rfl, rfl⟩
    case round =>
      obtain ⟨rfl, rfl, rfl⟩ := hrel
      go_wp2
      go_ret
      exact ⟨rfl, ⟨⟨_, _, rfl, fun h => absurd rfl h⟩, by simp [mkLis], mkLis_sizes⟩, Keep.refl _ _⟩
  · obtain ⟨a', cap', e, hc⟩ := h.shape
    simp only [Value.slice.injEq, true_and] at e
    obtain ⟨rfl, rfl⟩ := e
    obtain ⟨rfl, m, f, hR, hm, _⟩ := hc (by intro g; rw [g] at h0; simp at h0)
    have HR : Hid (w.rowIs b 64 m f) := hR
    clear h hR hc
    go_enter Tryz.func45, Tryz.ntmps45
    go_wp2
    go_loopw [1, 5] (fun q i wr => ∃ (j : Nat) (f : Nat → Value), q = .int .i64 ((k + j * 5 : Nat) : Int) ∧ i = .int .i64 (j : Int) ∧ j ≤ rs.length ∧ wr.rowIs b 64 m f ∧ (∀ i, i < j → f (i * 5) = .int .i64 (((k + i * 5 : Nat) : Int)) ∧ f (i * 5 + 1) = .string (mtB (k + i * 5 + 1)) ∧ f (i * 5 + 2) = .int .i64 (((k + i * 5 + 2 : Nat) : Int)) ∧ f (i * 5 + 3) = .int .i64 (((k + i * 5 + 3 : Nat) : Int)) ∧ f (i * 5 + 4) = .string (mtB (k + i * 5 + 4))) ∧ Keep b w wr) (fun _ i _ => rs.length - (intOf i).toNat)
    case atStart => exact ⟨0, f, by simp, rfl, by omega, HR.out, fun i hi => by omega, Keep.refl _ _⟩
    case round =>
      obtain ⟨j, f, rfl, rfl, hj, hR, hA, hK⟩ := hrel
      have HS : Hid (wr.rowIs b 64 m f ∧ (∀ i, i < j → f (i * 5) = .int .i64 (((k + i * 5 : Nat) : Int)) ∧ f (i * 5 + 1) = .string (mtB (k + i * 5 + 1)) ∧ f (i * 5 + 2) = .int .i64 (((k + i * 5 + 2 : Nat) : Int)) ∧ f (i * 5 + 3) = .int .i64 (((k + i * 5 + 3 : Nat) : Int)) ∧ f (i * 5 + 4) = .string (mtB (k + i * 5 + 4))) ∧ Keep b w wr) := ⟨hR, hA, hK⟩
      clear hR hA hK
      by_cases hlt : j < rs.length
      · have hlt' : (j : Int) < (rs.length : Int) := by omega
        have fy := HS.out.1.frozen
        have cy0 := HS.out.1.cell (i := j * 5) (by omega)
        have Hy : Hid ((wr.setCell ⟨b, j * 5, none⟩ (.int .i64 (((k + j * 5 : Nat) : Int)))).rowIs b 64 m _ ∧ Keep b w (wr.setCell ⟨b, j * 5, none⟩ (.int .i64 (((k + j * 5 : Nat) : Int))))) := ⟨(HS.out.1.set (j * 5) (.int .i64 (((k + j * 5 : Nat) : Int)))), (HS.out.2.2.setCell _ _)⟩
        go_wp2_with fail
        refine (markText_b _ (k + j * 5 + 1) (by omega) _ (by omega) (by omega)).mono ?_
        rintro e wa ⟨rfl, hba⟩
        have Ra := Hy.out.1.of_block (hba.block b Hy.out.1.lt)
        have fa := Ra.frozen
        have ca1 := Ra.cell (i := j * 5 + 1) (by omega)
        have ca2 := Ra.cell (i := j * 5 + 2) (by omega)
        have ca3 := Ra.cell (i := j * 5 + 3) (by omega)
        have Ha : Hid ((((wa.setCell ⟨b, j * 5 + 1, none⟩ (.string (mtB (k + j * 5 + 1)))).setCell ⟨b, j * 5 + 2, none⟩ (.int .i64 (((k + j * 5 : Nat) : Int) + 1 + 1))).setCell ⟨b, j * 5 + 3, none⟩ (.int .i64 (((k + j * 5 : Nat) : Int) + 1 + 1 + 1))).rowIs b 64 m _ ∧ Keep b w (((wa.setCell ⟨b, j * 5 + 1, none⟩ (.string (mtB (k + j * 5 + 1)))).setCell ⟨b, j * 5 + 2, none⟩ (.int .i64 (((k + j * 5 : Nat) : Int) + 1 + 1))).setCell ⟨b, j * 5 + 3, none⟩ (.int .i64 (((k + j * 5 : Nat) : Int) + 1 + 1 + 1)))) := ⟨(((Ra.set (j * 5 + 1) (.string (mtB (k + j * 5 + 1)))).set (j * 5 + 2) (.int .i64 (((k + j * 5 : Nat) : Int) + 1 + 1))).set (j * 5 + 3) (.int .i64 (((k + j * 5 : Nat) : Int) + 1 + 1 + 1))), ((((Hy.out.2.trans (Keep.of_below hba)).setCell _ _).setCell _ _).setCell _ _)⟩
        clear hba Ra fy cy0
        go_wp2_with fail
        refine (markText_b _ (k + j * 5 + 4) (by omega) _ (by omega) (by omega)).mono ?_
        rintro e wb ⟨rfl, hbb⟩
        have Rb := Ha.out.1.of_block (hbb.block b Ha.out.1.lt)
        have fb := Rb.frozen
        have cb4 := Rb.cell (i := j * 5 + 4) (by omega)
        have Hb : Hid ((wb.setCell ⟨b, j * 5 + 4, none⟩ (.string (mtB (k + j * 5 + 4)))).rowIs b 64 m _ ∧ Keep b w (wb.setCell ⟨b, j * 5 + 4, none⟩ (.string (mtB (k + j * 5 + 4))))) := ⟨(Rb.set (j * 5 + 4) (.string (mtB (k + j * 5 + 4)))), ((Ha.out.2.trans (Keep.of_below hbb)).setCell _ _)⟩
        clear hbb Rb fa ca1 ca2 ca3
        go_wp2
        go_roundw
        case rel =>
          refine ⟨j + 1, _, by go_num, by go_num, by omega, Hb.out.1, fun i hi => ?_, Hb.out.2⟩
          by_cases e1 : i = j
          · subst e1
            refine ⟨?_, ?_, ?_, ?_, ?_⟩
            · rw [if_neg (by omega), if_neg (by omega), if_neg (by omega), if_neg (by omega), if_pos rfl]
              try (first | rfl | (congr 1; omega))
            · rw [if_neg (by omega), if_neg (by omega), if_neg (by omega), if_pos rfl]
            · rw [if_neg (by omega), if_neg (by omega), if_pos rfl]
              try (first | rfl | (congr 1; omega))
            · rw [if_neg (by omega), if_pos rfl]
              try (first | rfl | (congr 1; omega))
            · rw [if_pos rfl]
          · obtain ⟨r0, r1, r2, r3, r4⟩ := HS.out.2.1 i (by omega)
            refine ⟨?_, ?_, ?_, ?_, ?_⟩
            all_goals rw [if_neg (by omega), if_neg (by omega), if_neg (by omega), if_neg (by omega), if_neg (by omega)]
            all_goals assumption
        case measure => simp [intOf]; omega
      · obtain rfl : j = rs.length := by omega
        go_wp2
        go_ret
        refine ⟨rfl, ⟨⟨_, _, by rw [mkLis_len], fun _ => ⟨rfl, m, f, HS.out.1, by rw [mkLis_len]; exact hm, fun i g hi => ?_⟩⟩, by rw [mkLis_len]; exact hlen, mkLis_sizes⟩, HS.out.2.2⟩
        obtain ⟨hi', rfl⟩ := mkLis_at hi
        exact HS.out.2.1 i hi'
set_option maxRecDepth 20000 in
set_option maxHeartbeats 8000000 in
theorem heldLi_any (v : Value) (k n : Nat) (w : World) (h : RowLi w v (mkLis k n)) (hk : 0 < k ∧ k + n * 5 < 1000000000000) :
    Calls Tryz.prog 47 #[v, .int .i64 (k : Int)] w fun e w' => e = .returned (.int .i64 ((k + n * 5 : Nat) : Int)) ∧ Below w.heap.size w w' := by
  have hlen := h.len
  obtain ⟨a, cap, rfl⟩ := h.val
  have H0 : Hid (RowLi w (.slice a (mkLis k n).length cap) (mkLis k n)) := h
  have hml : (mkLis k n).length = n := mkLis_len k n
  clear h
  go_enter Tryz.func47, Tryz.ntmps47
  go_wp2
  try rw [hml]
  go_loopw [1, 5] (fun q i wr => ∃ j : Nat, q = .int .i64 ((k + j * 5 : Nat) : Int) ∧ i = .int .i64 (j : Int) ∧ j ≤ n ∧ Below w.heap.size w wr) (fun _ i _ => n - (intOf i).toNat)
  case atStart => exact ⟨0, by simp, rfl, by omega, Below.refl _ _⟩
  case round =>
    obtain ⟨j, rfl, rfl, hj, hb⟩ := hrel
    by_cases hlt : j < n
    · have hlt' : (j : Int) < (n : Int) := by omega
      obtain ⟨b, o, cap', g, e, hs, hat, _⟩ := (H0.out.below hb).at (k := j) (by omega)
      simp only [Value.slice.injEq, true_and] at e
      obtain ⟨rfl, rfl⟩ := e
      obtain ⟨_, rfl⟩ := mkLis_at hs
      have HB : Hid (Below w.heap.size w wr) := hb
      have HQ : Hid (∀ W, Below wr.heap.size wr W → W.cell? ⟨b, o + j * 5, none⟩ = some (.int .i64 (((k + j * 5 : Nat) : Int))) ∧ W.cell? ⟨b, o + j * 5 + 1, none⟩ = some (.string (mtB (k + j * 5 + 1))) ∧ W.cell? ⟨b, o + j * 5 + 2, none⟩ = some (.int .i64 (((k + j * 5 + 2 : Nat) : Int))) ∧ W.cell? ⟨b, o + j * 5 + 3, none⟩ = some (.int .i64 (((k + j * 5 + 3 : Nat) : Int))) ∧ W.cell? ⟨b, o + j * 5 + 4, none⟩ = some (.string (mtB (k + j * 5 + 4)))) := fun W hW => by
        obtain ⟨r0, r1, r2, r3, r4⟩ := hat.below hW
        exact ⟨r0, r1, r2, r3, r4⟩
      clear hs hb hat
      obtain ⟨q0, q1, q2, q3, q4⟩ := HQ.out wr (Below.refl _ _)
      go_upto_region 7 with fail
      have l1 := cell_lt q1
      go_region_held3 (fun W => W.cell? ⟨b, o + j * 5 + 1, none⟩ = some (.string (mtB (k + j * 5 + 1)))) (go_keep) (first | (go_at_call 78; refine (markText_b _ (k + j * 5 + 1) (by omega) _ (by omega) (by omega)).mono ?_; rintro e wa ⟨rfl, hba⟩; have y1 := (hba.cell (p := ⟨b, o + j * 5 + 1, none⟩) l1).trans q1))
      rename_i hHeld
      clear hHeld
      have ba : Below wr.heap.size wr wa := (Below.refl wr.heap.size wr).trans (((Below.refl _ wr).drew.trans hba).mono (Below.refl wr.heap.size wr).size)
      clear hba y1 l1 q0 q1 q2 q3 q4
      obtain ⟨q0, q1, q2, q3, q4⟩ := HQ.out wa ba
      go_upto_region 16 with fail
      have l4 := cell_lt q4
      go_region_held3 (fun W => W.cell? ⟨b, o + j * 5 + 4, none⟩ = some (.string (mtB (k + j * 5 + 4)))) (go_keep) (first | (go_at_call 78; refine (markText_b _ (k + j * 5 + 4) (by omega) _ (by omega) (by omega)).mono ?_; rintro e wb ⟨rfl, hbb⟩; have y4 := (hbb.cell (p := ⟨b, o + j * 5 + 4, none⟩) l4).trans q4))
      rename_i hHeld
      clear hHeld
      have bb : Below wr.heap.size wr wb := ba.trans (((Below.refl _ wa).drew.trans hbb).mono ba.size)
      clear hbb y4 l4 q0 q1 q2 q3 q4
      obtain ⟨q0, q1, q2, q3, q4⟩ := HQ.out wb bb
      have HD : Hid (Below w.heap.size w wb) := HB.out.trans (bb.mono HB.out.size)
      clear ba bb
      go_wp2
      go_roundw
      case rel => exact ⟨j + 1, by go_num, by go_num, by omega, HD.out⟩
      case measure => simp [intOf]; omega
    · obtain rfl : j = n := by omega
      have HB : Hid (Below w.heap.size w wr) := hb
      clear hb
      go_wp2
      go_ret
      exact ⟨rfl, HB.out⟩
end Go.Proofs.YtmffigmidlgigaaGreatDoor
