/- Contracts of the program's placeOfLine and LineFind. -/
import Derived.Test.YtppfobeencnbdaaLnF
namespace Go.Proofs.Ytppfobeencnbdaa
open Go.ChangeShapes Go.WideShapes Go.ChangeAt Go.RowKit
set_option maxHeartbeats 2000000 in
theorem place_any (v : Value) (rs : List OLn) (l : OLn) (w : World) (h : RowOl w v rs) (hl : rs.length ≤ 1000) (hs : rs.Pairwise fun a b => befL a b = true) :
    Calls Try.prog 54 #[v, .agg #[.string l.partner, .string l.ref, .int .i64 l.no, .string l.item, .int .i64 l.ordered, .int .i64 l.sent, .int .i64 l.got, .int .i64 l.cut]] w fun e w' => e = .returned (.tuple #[.int .i64 (plcL rs l : Nat), .bool ((rs[plcL rs l]?).any fun x => decide (lcmp x l = 0))]) ∧ Below w.heap.size w w' := by
  obtain ⟨A, Cp, rfl⟩ := h.val
  have HS : Hid (RowOl w (.slice A rs.length Cp) rs ∧ rs.Pairwise fun a b => befL a b = true) := ⟨h, hs⟩
  clear h hs
  obtain ⟨n, hn⟩ : ∃ n, n = plcL rs l := ⟨_, rfl⟩
  obtain ⟨q, hq⟩ : ∃ q, q = (rs[plcL rs l]?).any fun x => decide (lcmp x l = 0) := ⟨_, rfl⟩
  rw [← hq, ← hn]
  have HQ : Hid (n = plcL rs l ∧ q = (rs[plcL rs l]?).any fun x => decide (lcmp x l = 0)) := ⟨hn, hq⟩
  clear hn hq
  obtain ⟨W0, hW0⟩ : ∃ W0, w.alloc (.cells #[.string l.partner, .string l.ref, .int .i64 l.no, .string l.item, .int .i64 l.ordered, .int .i64 l.sent, .int .i64 l.got, .int .i64 l.cut] 31) = W0 := ⟨_, rfl⟩
  have hb0 : Below w.heap.size w W0 := by rw [← hW0]; exact (Below.refl _ _).alloc (Nat.le_refl _) _
  have hbx : W0.heap[w.heap.size]? = some (.cells #[.string l.partner, .string l.ref, .int .i64 l.no, .string l.item, .int .i64 l.ordered, .int .i64 l.sent, .int .i64 l.got, .int .i64 l.cut] 31) := by rw [← hW0]; exact World.alloc_heap_new _ _
  go_enter Try.func54, Try.ntmps54
  go_upto_region 1 with fail
  try rw [hW0]
  clear hW0
  have HC : Hid (∀ W, Below W0.heap.size W0 W → W.cell? ⟨w.heap.size, 0, none⟩ = some (.string l.partner) ∧ W.cell? ⟨w.heap.size, 1, none⟩ = some (.string l.ref) ∧ W.cell? ⟨w.heap.size, 2, none⟩ = some (.int .i64 l.no) ∧ W.cell? ⟨w.heap.size, 3, none⟩ = some (.string l.item) ∧ W.cell? ⟨w.heap.size, 4, none⟩ = some (.int .i64 l.ordered) ∧ W.cell? ⟨w.heap.size, 5, none⟩ = some (.int .i64 l.sent) ∧ W.cell? ⟨w.heap.size, 6, none⟩ = some (.int .i64 l.got) ∧ W.cell? ⟨w.heap.size, 7, none⟩ = some (.int .i64 l.cut)) := fun W hW => box8 ((hW.block _ (Array.getElem?_eq_some_iff.1 hbx).1).trans hbx)
  have HB : Hid (Below w.heap.size w W0) := hb0
  clear hbx hb0
  obtain ⟨c0, c1, c2, c3, c4, c5, c6, c7⟩ := HC.out W0 (Below.refl _ _)
  have HL : Hid (RowOl W0 (.slice A rs.length Cp) rs) := HS.out.1.below HB.out
  go_wp2_with fail
  refine (search_any _ rs l _ HL.out hl HS.out.2).mono ?_
  rw [← HQ.out.2, ← HQ.out.1]
  rintro e w1 ⟨rfl, hb1⟩
  have H1 : Hid (Below w.heap.size w w1) := HB.out.trans (hb1.mono HB.out.size)
  clear hb1
  go_wp2
  exact bodyPost_ret (v := .tuple #[.int .i64 (n : Int), .bool q]) (by simp [results, Try.results54, go_sem]) rfl ⟨rfl, H1.out⟩
/-- What LineFind tells. -/
def FdO (rs : List OLn) (p r : ByteArray) (n z : Int) : Prop :=
  (¬ (rs.length ≤ 400 ∧ p.size ≤ 20000 ∧ r.size ≤ 20000) ∧ z = 0) ∨ ((rs.length ≤ 400 ∧ p.size ≤ 20000 ∧ r.size ≤ 20000) ∧ ((¬ RightL rs ∧ z = -1) ∨ (RightL rs ∧ ((∃ i x, rs[i]? = some x ∧ keyL x = (p, r, n) ∧ z = (i : Nat)) ∨ ((∀ x ∈ rs, keyL x ≠ (p, r, n)) ∧ z = -1)))))
theorem FdO.one {rs : List OLn} {p r : ByteArray} {n z z' : Int} (h : FdO rs p r n z) (h' : FdO rs p r n z') : z = z' := by
  rcases h with ⟨h1, rfl⟩ | ⟨h1, h⟩ <;> rcases h' with ⟨h2, rfl⟩ | ⟨h2, h'⟩
  · rfl
  · exact absurd h2 h1
  · exact absurd h1 h2
  · rcases h with ⟨h3, rfl⟩ | ⟨h3, h⟩ <;> rcases h' with ⟨h4, rfl⟩ | ⟨h4, h'⟩
    · rfl
    · exact absurd h4 h3
    · exact absurd h3 h4
    · rcases h with ⟨i, x, hx, hk, rfl⟩ | ⟨hno, rfl⟩ <;> rcases h' with ⟨j, y, hy, hk', rfl⟩ | ⟨hno', rfl⟩
      · have hp := h3.pair
        rw [List.pairwise_iff_getElem] at hp
        obtain ⟨hi, e1⟩ := List.getElem?_eq_some_iff.1 hx
        obtain ⟨hj, e2⟩ := List.getElem?_eq_some_iff.1 hy
        rcases Nat.lt_trichotomy i j with g | g | g
        · have := hp i j hi hj g
          rw [e1, e2] at this
          exact absurd (hk.trans hk'.symm) (befL_key this)
        · rw [g]
        · have := hp j i hj hi g
          rw [e1, e2] at this
          exact absurd (hk'.trans hk.symm) (befL_key this)
      · exact absurd hk (hno' x (List.mem_of_getElem? hx))
      · exact absurd hk' (hno y (List.mem_of_getElem? hy))
      · rfl
open Classical in
noncomputable def findT (rs : List OLn) (p r : ByteArray) (n : Int) : Int := if h : ∃ z, FdO rs p r n z then h.choose else 0
theorem findT_of {rs : List OLn} {p r : ByteArray} {n z : Int} (h : FdO rs p r n z) : findT rs p r n = z := by
  have hh : ∃ z, FdO rs p r n z := ⟨z, h⟩
  unfold findT
  rw [dif_pos hh]
  exact hh.choose_spec.one h
def tgtL (p r : ByteArray) (n : Int) : OLn := ⟨p, r, n, ⟨#[]⟩, 0, 0, 0, 0⟩
theorem find_place {rs : List OLn} {p r : ByteArray} {n : Int} (hr : RightL rs) (hz : p.size ≤ 20000 ∧ r.size ≤ 20000) (q : Bool) (hq : q = (rs[plcL rs (tgtL p r n)]?).any fun x => decide (lcmp x (tgtL p r n) = 0)) : findT rs p r n = if q then ((plcL rs (tgtL p r n) : Nat) : Int) else -1 := by
  have hl := hr.len
  refine findT_of (.inr ⟨⟨by omega, hz⟩, .inr ⟨hr, ?_⟩⟩)
  have ht : keyL (tgtL p r n) = (p, r, n) := rfl
  cases q with
  | true =>
    left
    cases hx : rs[plcL rs (tgtL p r n)]? with
    | none => rw [hx] at hq; cases hq
    | some x =>
      rw [hx, Option.any_some] at hq
      exact ⟨_, x, hx, ((lcmp_zero _ _).1 (of_decide_eq_true hq.symm)).trans ht, rfl⟩
  | false =>
    right
    refine ⟨fun x hx hk => ?_, rfl⟩
    obtain ⟨i, hi⟩ := List.mem_iff_getElem?.1 hx
    have hk2 : keyL x = keyL (tgtL p r n) := hk.trans ht.symm
    have hp := hr.pair
    rw [List.pairwise_iff_getElem] at hp
    obtain ⟨hil, e⟩ := List.getElem?_eq_some_iff.1 hi
    have hpl : plcL rs (tgtL p r n) = i := cnt_at _ rs i (by omega) (fun j y hj hy => by
      obtain ⟨hjl, e'⟩ := List.getElem?_eq_some_iff.1 hy
      have := hp j i hjl hil hj
      rw [e, e'] at this
      rw [← befL_congr rfl hk2]
      exact this) (fun j y hj hy => by
      obtain ⟨hjl, e'⟩ := List.getElem?_eq_some_iff.1 hy
      rw [← befL_congr rfl hk2]
      rcases Nat.lt_or_ge i j with g | g
      · have := hp i j hil hjl g
        rw [e, e'] at this
        exact befL_asymm this
      · obtain rfl : i = j := by omega
        rw [hi] at hy
        cases hy
        exact befL_irrefl _)
    rw [hpl, hi, Option.any_some, decide_eq_true ((lcmp_zero _ _).2 hk2)] at hq
    cases hq
end Go.Proofs.Ytppfobeencnbdaa
