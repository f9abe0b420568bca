/- Texts of ours put together: TrD. -/
import Derived.Test.YtjnikogaleofaaaDoorG51
import Derived.Test.YtjnikogaleofaaaDoorG37
namespace Go.Proofs.YtjnikogaleofaaaDoor
open Go.ChangeShapes Go.WideShapes Go.ChangeAt Go.RowKit Go.Shelf
theorem bdBs_len {frm tt : ByteArray} {num : Int} {N : Nat} {W : World} {v : Value} {bs : List BunV} (h : OwnWBs N W v bs) (hb : BdBs bs) : (ixSegs ⟨frm, tt, num, bs.map (·.1)⟩).length ≤ 344 := by
  refine ixSegs_len (by dsimp only; rw [List.length_map]; exact hb.1) fun b hbm => ?_
  obtain ⟨x, hx, rfl⟩ := List.mem_map.1 hbm
  have h1 := hb.2 x hx
  have h2 := (h.msgs x hx).2
  rw [← h2]
  refine ⟨by rw [List.length_map]; exact h1.1.1, fun m hm => ?_⟩
  obtain ⟨y, hy, rfl⟩ := List.mem_map.1 hm
  exact (h1.1.2 y hy).2.1
theorem drawIx_any (a : Option Addr) (len cap : Nat) (zs : List Int) (w : World) (hl : len ≤ 1048576) (hr : BytesAt w a len zs) :
    Calls Tryd.prog 4 #[.slice a len cap] w fun e w' => ∃ (x : Ixc) (v : Value), e = .returned (.agg #[.string x.frm, .string x.to, .int .i64 x.num, v]) ∧ RI w' v x ∧ BdI 1048576 x ∧ (ixSegs x).length ≤ 344 ∧ x.frm.size ≤ 100 ∧ x.to.size ≤ 100 ∧ Below w.heap.size w w' := by
  obtain ⟨W0, hW0⟩ : ∃ W0, w.alloc (.cells #[.string ⟨#[]⟩, .string ⟨#[]⟩, .int .i64 0, .slice none 0 0] 25) = W0 := ⟨_, rfl⟩
  have hb0 : Below w.heap.size w W0 := by rw [← hW0]; exact (Below.refl _ _).alloc (Nat.le_refl _) _
  have hr0 : W0.heap[w.heap.size]? = some (.cells #[.string ⟨#[]⟩, .string ⟨#[]⟩, .int .i64 0, .slice none 0 0] 25) := by rw [← hW0]; exact World.alloc_heap_new _ _
  have hz0 : w.heap.size < W0.heap.size := (Array.getElem?_eq_some_iff.1 hr0).1
  have hr' : BytesAt W0 a len zs := fun h => by
    obtain ⟨b, off, e, hc⟩ := hr h
    exact ⟨b, off, e, fun i hi => (hb0.cell (p := ⟨b, off + i, none⟩) (cell_lt (hc i hi))).trans (hc i hi)⟩
  have HR : Hid (BytesAt W0 a len zs ∧ W0.heap[w.heap.size]? = some (.cells #[.string ⟨#[]⟩, .string ⟨#[]⟩, .int .i64 0, .slice none 0 0] 25) ∧ Below w.heap.size w W0) := ⟨hr', hr0, hb0⟩
  clear hr hr' hr0 hb0
  go_enter Tryd.func4, Tryd.ntmps4
  go_wp2_with fail
  refine (source_any a len cap zs W0 hl HR.out.1).mono ?_
  rintro e w1 ⟨rfl, hs1, hb1⟩
  have H1 : Hid (IsSrc W0.heap.size w1 ∧ Below W0.heap.size W0 w1) := ⟨hs1, hb1⟩
  have hz1 := hb1.size
  clear hs1 hb1
  go_wp2_with fail
  refine (l03Ix_any W0.heap.size _ H1.out.1).mono ?_
  rintro e w2 ⟨frm, tt, num, v, bs, rfl, hz, hB, hO, _, hk⟩
  have hb2 : Below W0.heap.size W0 w2 := H1.out.2.trans (hk.below (Nat.le_refl _) H1.out.2.size)
  have hr2 := (hb2.block w.heap.size hz0).trans HR.out.2.1
  obtain ⟨Av, Cv, hv⟩ := row_slice_any hO.row
  subst hv
  have H2 : Hid (Below w.heap.size w w2 ∧ OwnWBs w1.heap.size w2 (.slice Av bs.length Cv) bs ∧ BdBs bs) := ⟨HR.out.2.2.trans (hb2.mono HR.out.2.2.size), hO, hB⟩
  have r0 := cell_of_row _ w.heap.size 0 _ _ _ hr2
  have r1 := cell_of_row _ w.heap.size 1 _ _ _ hr2
  have r2 := cell_of_row _ w.heap.size 2 _ _ _ hr2
  have r3 := cell_of_row _ w.heap.size 3 _ _ _ hr2
  have rf : ∀ o, w2.frozen? ⟨w.heap.size, o, none⟩ = false := fun o => by simp [World.frozen?, hr2]
  obtain ⟨W3, hW3⟩ : ∃ W3, ((((w2.setCell ⟨w.heap.size, 0, none⟩ (.string frm)).setCell ⟨w.heap.size, 1, none⟩ (.string tt)).setCell ⟨w.heap.size, 2, none⟩ (.int .i64 num)).setCell ⟨w.heap.size, 3, none⟩ (.slice Av bs.length Cv)) = W3 := ⟨_, rfl⟩
  have h3 : W3.heap[w.heap.size]? = some (.cells #[.string frm, .string tt, .int .i64 num, .slice Av bs.length Cv] 25) := by
    rw [← hW3]
    exact heap_setCell_same _ w.heap.size 3 _ _ _ (heap_setCell_same _ w.heap.size 2 _ _ _ (heap_setCell_same _ w.heap.size 1 _ _ _ (heap_setCell_same w2 w.heap.size 0 _ _ _ hr2)))
  have y0 := cell_of_row _ w.heap.size 0 _ _ _ h3
  have y1 := cell_of_row _ w.heap.size 1 _ _ _ h3
  have y2 := cell_of_row _ w.heap.size 2 _ _ _ h3
  have y3 := cell_of_row _ w.heap.size 3 _ _ _ h3
  have hO3 : OwnWBs w1.heap.size W3 (.slice Av bs.length Cv) bs := by
    rw [← hW3]
    exact (((hO.set (B := w.heap.size) (by omega) 0 _).set (B := w.heap.size) (by omega) 1 _).set (B := w.heap.size) (by omega) 2 _).set (B := w.heap.size) (by omega) 3 _
  have hb3 : Below w.heap.size w W3 := by
    rw [← hW3]
    have hle : ∀ o, w.heap.size ≤ (⟨w.heap.size, o, none⟩ : Addr).block := fun o => Nat.le_refl _
    exact ((((H2.out.1.setCell (hle 0) _).setCell (hle 1) _).setCell (hle 2) _).setCell (hle 3) _)
  have hri := hO3.ri hB hz.1 hz.2.1 (num := num)
  have H3 : Hid (RI W3 (.slice Av bs.length Cv) ⟨frm, tt, num, bs.map (·.1)⟩ ∧ BdI 1048576 ⟨frm, tt, num, bs.map (·.1)⟩ ∧ Below w.heap.size w W3) := ⟨hri.1, hri.2, hb3⟩
  clear hO hB hk hri hO3 hb3 h3 hr2 hb2
  go_wp2
  try rw [hW3]
  exact bodyPost_ret (v := .agg #[.string frm, .string tt, .int .i64 num, .slice Av bs.length Cv]) (by simp [results, Tryd.results4, go_sem, y0, y1, y2, y3]) rfl ⟨⟨frm, tt, num, bs.map (·.1)⟩, _, rfl, H3.out.1, H3.out.2.1, bdBs_len H2.out.2.1 H2.out.2.2, hz.1, hz.2.1, H3.out.2.2⟩
end Go.Proofs.YtjnikogaleofaaaDoor
