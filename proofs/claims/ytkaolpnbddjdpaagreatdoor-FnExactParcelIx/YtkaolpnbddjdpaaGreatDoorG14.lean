/- Texts of ours put together: PiO. -/
import Derived.Test.YtkaolpnbddjdpaaGreatDoorG13
import Derived.Deep.RegionLaw
import Derived.Deep.AppendLies
namespace Go.Proofs.YtkaolpnbddjdpaaGreatDoor
open Go.ChangeShapes Go.WideShapes Go.ChangeAt Go.RowKit
theorem body_doc0 (p : Pap) : (bodyW wordsI p)[0]? = some (hdS sDOC (docW p)) := rfl
theorem body_note {p : Pap} {k : Nat} (h : k < p.notes.length) : ∃ t, p.notes[k]? = some t ∧ (bodyW wordsI p)[k + 1]? = some (noteG t) := by
  refine ⟨_, List.getElem?_eq_getElem h, ?_⟩
  unfold bodyW
  rw [List.getElem?_cons_succ, List.getElem?_append_left (by rw [List.length_map]; exact h), List.getElem?_map, List.getElem?_eq_getElem h]
  rfl
theorem body_line {p : Pap} {k : Nat} (h : k < p.lines.length) : ∃ l, p.lines[k]? = some l ∧ (bodyW wordsI p)[p.notes.length + k + 1]? = some (lineG wordsI p.kind l) := by
  refine ⟨_, List.getElem?_eq_getElem h, ?_⟩
  unfold bodyW
  rw [List.getElem?_cons_succ, List.getElem?_append_right (by rw [List.length_map]; omega), List.length_map, show p.notes.length + k - p.notes.length = k by omega, List.getElem?_map, List.getElem?_eq_getElem h]
  rfl
theorem lnI_bd {k : Int} {ls : List Ln} (h : BdL 1048576 ls) {l : Ln} (hl : l ∈ ls.map (lnI k)) : l.item.size ≤ 9223372036854775807 ∧ l.note.size ≤ 9223372036854775807 := by
  obtain ⟨m, hm, rfl⟩ := List.mem_map.1 hl
  obtain ⟨i, hi⟩ := List.getElem?_of_mem hm
  have hz := h.2 i m hi
  have e0 : eT.size = 0 := rfl
  unfold lnI
  repeat' split
  all_goals exact ⟨by simp only [e0]; omega, by simp only [e0]; omega⟩
theorem rd_other {p : Pap} (h : p.other.size ≤ 1048576) : (rdP lnI p).other.size ≤ 9223372036854775807 := by
  show (if hasO p.kind = true then p.other else eT).size ≤ _
  split
  · omega
  · exact Nat.zero_le _
/-- The answer's cells are written: the lists lie elsewhere. -/
theorem papR_set {w W : World} {q : Pap} {vn vl : Value} (h : PapR W vn vl q) (hQ : PO w W q vn vl) {a0 a1 a2 a3 a4 a5 : Value} : PapR ((((((W.setCell ⟨w.heap.size, 0, none⟩ a0).setCell ⟨w.heap.size, 1, none⟩ a1).setCell ⟨w.heap.size, 2, none⟩ a2).setCell ⟨w.heap.size, 3, none⟩ a3).setCell ⟨w.heap.size, 4, none⟩ a4).setCell ⟨w.heap.size, 5, none⟩ a5) vn vl q := by
  have hn : ∀ {e : TypeId} {size : Nat} {v : Value} {len : Nat} {xs : List Value} (W : World) (i : Nat) (a : Value), W.ownsRow (w.heap.size + 2) e size v len xs → (W.setCell ⟨w.heap.size, i, none⟩ a).ownsRow (w.heap.size + 2) e size v len xs := fun W i a hr => by
    refine hr.kept (row := some w.heap.size) ⟨rfl, rfl, rfl, by simp, fun k _ hne => setNe _ (fun e => hne (by rw [e]))⟩ ?_
    rcases hr.2 with ⟨e, _⟩ | ⟨g, cap, cur, e, hg, _⟩
    · exact .inl (by rw [e]; rfl)
    · refine .inr ?_
      rw [e]
      simp only [Value.ownBlock]
      intro e2
      simp only [Option.some.injEq] at e2
      omega
  have k1 := hn _ 5 a5 (hn _ 4 a4 (hn _ 3 a3 (hn _ 2 a2 (hn _ 1 a1 (hn _ 0 a0 hQ.ns)))))
  have k2 := hn _ 5 a5 (hn _ 4 a4 (hn _ 3 a3 (hn _ 2 a2 (hn _ 1 a1 (hn _ 0 a0 hQ.ls)))))
  exact ⟨rowS_of_owns' k1 h.ns, rowL_of_owns' k2 h.ls, h.rz, h.oz⟩
theorem infoLn : (Tryz.prog.info? 121).map (fun i => (i.zero, i.size, i.bytes)) = some (some (.agg #[.int .i64 0, .string ⟨#[]⟩, .int .i64 0, .int .i64 0, .string ⟨#[]⟩]), 5, 56) := by kernel_rfl
theorem row_slice5 {n₀ t k : Nat} {W : World} {v : Value} {xs : List Value} (h : W.ownsRow n₀ t 5 v k xs) : ∃ A N C, v = .slice A N C := by
  rcases h.2 with ⟨rfl, _⟩ | ⟨g, cap, cur, rfl, _⟩
  · exact ⟨_, _, _, rfl⟩
  · exact ⟨_, _, _, rfl⟩
/-- A slice with room for what it has. -/
def CapL (v : Value) (n : Nat) : Prop := ∃ A C, v = .slice A n C ∧ n ≤ C ∧ C ≤ maxLen
theorem capL_of {W : World} {base n : Nat} {v : Value} {xs : List Value} (h : W.ownsRow base 121 5 v n xs) : CapL v n := by
  rcases h.2 with ⟨rfl, h0⟩ | ⟨g, cap, cur, rfl, _, _, hc, hm, _⟩
  · exact ⟨none, 0, by rw [h0], by omega, by unfold maxLen; omega⟩
  · exact ⟨_, cap, rfl, hc, hm⟩
theorem row_n5 {n₀ t k N C : Nat} {W : World} {A : Option Addr} {xs : List Value} (h : W.ownsRow n₀ t 5 (.slice A N C) k xs) : N = k := by
  rcases h.2 with ⟨e, h0⟩ | ⟨g, cap, cur, e, _⟩
  · simp only [Value.slice.injEq] at e
    omega
  · simp only [Value.slice.injEq] at e
    omega
theorem bs_list (l : List UInt8) : (bs l).toList = l := by rw [ByteArray.toList_eq]; rfl
theorem tag_cmp (a b : List UInt8) : ((bs a).toList == b) = (a == b) := by rw [bs_list]
theorem sTag_cmpD (k : Int) : ((sTag k).toList == [68, 79, 67]) = false := by
  unfold sTag
  split
  · rw [tag_cmp]; decide
  · split <;> (rw [tag_cmp]; decide)
theorem sTag_cmpN (k : Int) : ((sTag k).toList == [78, 79, 84]) = false := by
  unfold sTag
  split
  · rw [tag_cmp]; decide
  · split <;> (rw [tag_cmp]; decide)
theorem docW_len (p : Pap) : (docW p).length ≤ 4 := by
  unfold docW
  split <;> simp
theorem docW_bd {p : Pap} (hi : i64B p.day) (hz : p.ref.size ≤ 1048576 ∧ p.other.size ≤ 1048576) : ∀ t ∈ docW p, t.size ≤ 1048576 := by
  have h0 := (decS_long p.day hi.1 hi.2).2
  unfold docW
  split
  all_goals
    intro t ht
    simp only [List.mem_cons, List.not_mem_nil, or_false] at ht
    rcases ht with rfl | rfl | rfl <;> omega
set_option maxRecDepth 20000 in
set_option maxHeartbeats 16000000 in
theorem paperOf_any (p : Pap) (v : Value) (w : World) (hk : 1 ≤ p.kind ∧ p.kind ≤ 7) (hI : PapI p) (hB : BdP 1048576 p) (hn40 : p.notes.length ≤ 40) (hl20 : p.lines.length ≤ 20) (h : RowG w v (bodyW wordsI p)) (hV : VarsAt w) :
    Calls Tryz.prog 155 #[.int .i64 p.kind, v] w fun e w' => ∃ vn vl, e = .returned (.agg #[.int .i64 (rdP lnI p).kind, .string (rdP lnI p).ref, .string (rdP lnI p).other, .int .i64 (rdP lnI p).day, vn, vl]) ∧ PapR w' vn vl (rdP lnI p) ∧ CapL vl (rdP lnI p).lines.length ∧ OwnQ (w.heap.size + 2) w' (rdP lnI p) vn vl ∧ Below w.heap.size w w' := by
  obtain ⟨hz1, hz2, hnB, hlB⟩ := hB
  have hlen : (bodyW wordsI p).length = 1 + (p.notes.length + p.lines.length) := body_len wordsI p
  obtain ⟨Ab, Cb, hv⟩ := h.val
  rw [hlen] at hv
  subst hv
  obtain ⟨N, hN⟩ : ∃ N, N = 1 + (p.notes.length + p.lines.length) := ⟨_, rfl⟩
  have hN60 : N ≤ 61 := by omega
  rw [← hN] at h hlen
  rw [← hN]
  obtain ⟨W0, hW0⟩ : ∃ W0, (w.alloc (.cells #[.int .i64 0, .string ⟨#[]⟩, .string ⟨#[]⟩, .int .i64 0, .slice none 0 0, .slice none 0 0] 66)).alloc (.cells #[.int .i64 p.kind, .string ⟨#[]⟩, .string ⟨#[]⟩, .int .i64 0, .slice none 0 0, .slice none 0 0] 66) = W0 := ⟨_, rfl⟩
  have hb0 : Below w.heap.size w W0 := by rw [← hW0]; exact ((Below.refl _ _).alloc (Nat.le_refl _) _).alloc (by simp) _
  have x0 : W0.heap[w.heap.size]? = some (.cells #[.int .i64 0, .string ⟨#[]⟩, .string ⟨#[]⟩, .int .i64 0, .slice none 0 0, .slice none 0 0] 66) := by rw [← hW0]; exact two_old _ _ _
  have x1 : W0.heap[w.heap.size + 1]? = some (.cells #[.int .i64 p.kind, .string ⟨#[]⟩, .string ⟨#[]⟩, .int .i64 0, .slice none 0 0, .slice none 0 0] 66) := by rw [← hW0]; exact two_new _ _ _
  have HQ0 : Hid (PO w W0 (prt p 0) (.slice none 0 0) (.slice none 0 0)) := ⟨x0, x1, World.ownsRow_nil _ _ _ _, World.ownsRow_nil _ _ _ _, hb0⟩
  have HR : Hid (RowG w (.slice Ab N Cb) (bodyW wordsI p) ∧ BdS 1048576 p.notes ∧ BdL 1048576 p.lines ∧ PapI p ∧ VarsAt w ∧ (bodyW wordsI p).length = N ∧ N = 1 + (p.notes.length + p.lines.length)) := ⟨h, hnB, hlB, hI, hV, hlen, hN⟩
  have hid := hI.1
  clear hN hlen x0 x1 hb0 h hnB hlB hV hI
  go_enter Tryz.func155, Tryz.ntmps155
  obtain ⟨Wr, hWr⟩ : ∃ Wr, w.alloc (.cells #[.int .i64 0, .string ⟨#[]⟩, .string ⟨#[]⟩, .int .i64 0, .slice none 0 0, .slice none 0 0] 66) = Wr := ⟨_, rfl⟩
  have HPs : Hid (Wr.heap.size = w.heap.size + 1) := by show _ = _; rw [← hWr]; simp
  rw [hWr] at hW0
  have HW0 : Hid (Wr.alloc (.cells #[.int .i64 p.kind, .string ⟨#[]⟩, .string ⟨#[]⟩, .int .i64 0, .slice none 0 0, .slice none 0 0] 66) = W0) := hW0
  clear hW0
  go_upto_region 1 with fail
  try rw [hWr]
  clear hWr
  go_upto_region 2 with fail
  try rw [HW0.out]
  try rw [HPs.out]
  clear HW0 HPs
  go_wp2_with fail
  refine (paperKindOf_any p.kind _ hk).mono ?_
  rintro e W0 ⟨rfl, rfl⟩
  go_wp2_with fail
  go_loopw [16] (fun i wr => ∃ (j : Nat) (vn vl : Value), i = .int .i64 (j : Int) ∧ j ≤ N ∧ PO w wr (prt p j) vn vl) (fun i _ => N - (intOf i).toNat)
  case atStart => exact ⟨0, _, _, rfl, by omega, HQ0.out⟩
  case round =>
    obtain ⟨j, vn, vl, rfl, hj, hQ⟩ := hrel
    by_cases hltN : j < N
    · have hlt' : (j : Int) < (N : Int) := by omega
      have hlt : j < (bodyW wordsI p).length := by rw [HR.out.2.2.2.2.2.1]; exact hltN
      rcases Nat.eq_zero_or_pos j with hj0 | hj0
      · subst hj0
        have hs : (bodyW wordsI p)[0]? = some (hdS sDOC (docW p)) := body_doc0 p
        obtain ⟨b, o, cap', g', u, e, hs', q0, q1, hE, _⟩ := (HR.out.1.below hQ.bel).at hlt
        rw [hs] at hs'
        simp only [Option.some.injEq] at hs'
        subst hs'
        have hE' : RowE wr u ((docW p).map fun t => [t]) := hE
        have q0' : wr.cell? ⟨b, o, none⟩ = some (.string sDOC) := by have := q0; rw [Nat.zero_mul, Nat.add_zero] at this; exact this
        simp only [Nat.zero_mul, Nat.add_zero] at q1
        obtain ⟨Au, Cu, hu⟩ := hE'.val
        rw [List.length_map] at hu
        subst hu
        simp only [Value.slice.injEq] at e
        obtain ⟨rfl, hNe, rfl⟩ := e
        clear hNe
        obtain ⟨We, hWe⟩ : ∃ We, wr.alloc (.cells #[.string sDOC, .slice Au (docW p).length Cu] 90) = We := ⟨_, rfl⟩
        have be : Below wr.heap.size wr We := by rw [← hWe]; exact (Below.refl _ _).alloc (Nat.le_refl _) _
        have ye : We.heap[wr.heap.size]? = some (.cells #[.string sDOC, .slice Au (docW p).length Cu] 90) := by rw [← hWe]; exact World.alloc_heap_new _ _
        obtain ⟨f0, f1, _⟩ := sbox' ye
        have HE : Hid (PO w We (prt p 0) vn vl ∧ RowE We (.slice Au (docW p).length Cu) ((docW p).map fun t => [t]) ∧ We.heap[wr.heap.size]? = some (.cells #[.string sDOC, .slice Au (docW p).length Cu] 90)) := ⟨hQ.below be, hE'.below be, ye⟩
        clear hQ hE hE' be ye q0
        go_upto_region 6 with fail
        try rw [hWe]
        clear hWe q0' q1
        go_wp2_with fail
        refine (lineWords_any sDOC _ (docW p) _ HE.out.2.1 (docW_len p) (docW_bd hid ⟨hz1, hz2⟩)).mono ?_
        rintro e w3 ⟨rfl, hb3⟩
        unfold w4
        obtain ⟨W4, hW4⟩ : ∃ W4, w3.alloc (.cells #[.string (((docW p)[0]?).getD eT), .string (((docW p)[1]?).getD eT), .string (((docW p)[2]?).getD eT), .string (((docW p)[3]?).getD eT)] 217) = W4 := ⟨_, rfl⟩
        have b4 : Below We.heap.size We W4 := by rw [← hW4]; exact hb3.trans (((Below.refl _ _).alloc (Nat.le_refl _) _).mono hb3.size)
        have y4 : W4.heap[w3.heap.size]? = some (.cells #[.string (((docW p)[0]?).getD eT), .string (((docW p)[1]?).getD eT), .string (((docW p)[2]?).getD eT), .string (((docW p)[3]?).getD eT)] 217) := by rw [← hW4]; exact World.alloc_heap_new _ _
        have x4 := (b4.block _ (Array.getElem?_eq_some_iff.1 HE.out.2.2).1).trans HE.out.2.2
        obtain ⟨g0, g1, _⟩ := sbox' x4
        obtain ⟨s0, s1, s2, s3⟩ := bx4 y4
        obtain ⟨X, hX⟩ : ∃ X, X = w3.heap.size := ⟨_, rfl⟩
        have HP : Hid (PO w W4 (prt p 0) vn vl) := HE.out.1.below b4
        rw [← hX] at s0 s1 s2 s3
        go_upto_region 7 with fail
        try rw [hW4]
        try rw [← hX]
        clear hW4 hX hb3 b4 y4 x4 f0 f1
        obtain ⟨c0, c1, c2, c3, c4, c5⟩ := pbox HP.out.box
        have hcD : (sDOC.toList == [68, 79, 67]) = true := by show ((bs [68, 79, 67]).toList == [68, 79, 67]) = true; rw [tag_cmp]; decide
        have hn5 : NumW (selB (hasO p.kind) (((docW p)[2]?).getD eT) (((docW p)[1]?).getD eT)) p.day := by
          cases hO : hasO p.kind with
          | true => rw [docW_yes hO]; exact .inl ⟨numT_all _, hid⟩
          | false => rw [docW_no hO]; exact .inl ⟨numT_all _, hid⟩
        have ea0 : ((docW p)[0]?).getD eT = p.ref := by
          cases hO : hasO p.kind with
          | true => rw [docW_yes hO]; rfl
          | false => rw [docW_no hO]; rfl
        have ea1 : selB (hasO p.kind) (((docW p)[1]?).getD eT) eT = selB (hasO p.kind) p.other eT := by
          cases hO : hasO p.kind with
          | true => rw [docW_yes hO]; rfl
          | false => rfl
        have HA : Hid (((docW p)[0]?).getD eT = p.ref ∧ selB (hasO p.kind) (((docW p)[1]?).getD eT) eT = selB (hasO p.kind) p.other eT) := ⟨ea0, ea1⟩
        have gz : ∀ i : Nat, (((docW p)[i]?).getD eT).size ≤ 281474976710656 := fun i => by
          cases hd : (docW p)[i]? with
          | none => exact Nat.zero_le _
          | some t =>
            have := docW_bd hid ⟨hz1, hz2⟩ t (List.mem_of_getElem? hd)
            show t.size ≤ _
            omega
        have Q5 := setDoc_any (w.heap.size + 1) p.kind eT eT 0 vn vl (((docW p)[0]?).getD eT) (((docW p)[1]?).getD eT) (((docW p)[2]?).getD eT) (((docW p)[3]?).getD eT) p.day w W4 hk HP.out.box HR.out.2.2.2.2.1 HP.out.bel (by omega) ⟨gz 1, gz 2⟩ hn5
        clear ea0 ea1 hn5 gz
        go_wp2_with fail
        refine Q5.mono ?_
        rintro e w5 ⟨rfl, hx5, hk5⟩
        have H5 : Hid (PO w w5 (prt p 1) vn vl) := HP.out.doc hk5 (by rw [HA.out.1, HA.out.2] at hx5; exact hx5) rfl (by show List.take (1 - 1 - p.notes.length) (p.lines.map (lnI p.kind)) = []; rw [show 1 - 1 - p.notes.length = 0 by omega]; rfl)
        clear hx5 hk5 Q5
        go_wp2
        go_roundw
        case rel => exact ⟨1, vn, vl, by go_num, by omega, H5.out⟩
        case measure => simp [intOf]; omega
      · rcases Nat.lt_or_ge (j - 1) p.notes.length with hjn | hjn
        · obtain ⟨k, rfl⟩ : ∃ k, j = k + 1 := ⟨j - 1, by omega⟩
          obtain ⟨t, htk, hs⟩ := body_note (p := p) (k := k) (by omega)
          obtain ⟨ws, hws⟩ : ∃ ws : List ByteArray, ws = [t] := ⟨_, rfl⟩
          have hs : (bodyW wordsI p)[k + 1]? = some (hdS sNOT ws) := by rw [hws]; exact hs
          have htz := HR.out.2.1.2 k t htk
          have HW : Hid ((ws[0]?).getD eT = t ∧ ws.length ≤ 4 ∧ (∀ x ∈ ws, x.size ≤ 1048576) ∧ p.notes[k]? = some t) := by
            refine ⟨by rw [hws]; rfl, by rw [hws]; simp, fun x hx => ?_, htk⟩
            rw [hws, List.mem_singleton] at hx
            rw [hx]
            exact htz
          clear hws htk
          obtain ⟨b, o, cap', g', u, e, hs', q0, q1, hE, _⟩ := (HR.out.1.below hQ.bel).at hlt
          rw [hs] at hs'
          simp only [Option.some.injEq] at hs'
          subst hs'
          have hE' : RowE wr u ((ws).map fun t => [t]) := hE
          have q0' : wr.cell? ⟨b, o + (k + 1) * 2, none⟩ = some (.string sNOT) := q0
          obtain ⟨Au, Cu, hu⟩ := hE'.val
          rw [List.length_map] at hu
          subst hu
          simp only [Value.slice.injEq] at e
          obtain ⟨rfl, hNe, rfl⟩ := e
          clear hNe
          obtain ⟨We, hWe⟩ : ∃ We, wr.alloc (.cells #[.string sNOT, .slice Au (ws).length Cu] 90) = We := ⟨_, rfl⟩
          have be : Below wr.heap.size wr We := by rw [← hWe]; exact (Below.refl _ _).alloc (Nat.le_refl _) _
          have ye : We.heap[wr.heap.size]? = some (.cells #[.string sNOT, .slice Au (ws).length Cu] 90) := by rw [← hWe]; exact World.alloc_heap_new _ _
          obtain ⟨f0, f1, _⟩ := sbox' ye
          have HE : Hid (PO w We (prt p (k + 1)) vn vl ∧ RowE We (.slice Au (ws).length Cu) ((ws).map fun t => [t]) ∧ We.heap[wr.heap.size]? = some (.cells #[.string sNOT, .slice Au (ws).length Cu] 90)) := ⟨hQ.below be, hE'.below be, ye⟩
          clear hQ hE hE' be ye q0
          go_upto_region 6 with fail
          try rw [hWe]
          clear hWe q0' q1
          go_wp2_with fail
          refine (lineWords_any sNOT _ (ws) _ HE.out.2.1 HW.out.2.1 HW.out.2.2.1).mono ?_
          rintro e w3 ⟨rfl, hb3⟩
          unfold w4
          obtain ⟨W4, hW4⟩ : ∃ W4, w3.alloc (.cells #[.string (((ws)[0]?).getD eT), .string (((ws)[1]?).getD eT), .string (((ws)[2]?).getD eT), .string (((ws)[3]?).getD eT)] 217) = W4 := ⟨_, rfl⟩
          have b4 : Below We.heap.size We W4 := by rw [← hW4]; exact hb3.trans (((Below.refl _ _).alloc (Nat.le_refl _) _).mono hb3.size)
          have y4 : W4.heap[w3.heap.size]? = some (.cells #[.string (((ws)[0]?).getD eT), .string (((ws)[1]?).getD eT), .string (((ws)[2]?).getD eT), .string (((ws)[3]?).getD eT)] 217) := by rw [← hW4]; exact World.alloc_heap_new _ _
          have x4 := (b4.block _ (Array.getElem?_eq_some_iff.1 HE.out.2.2).1).trans HE.out.2.2
          obtain ⟨g0, g1, _⟩ := sbox' x4
          obtain ⟨s0, s1, s2, s3⟩ := bx4 y4
          obtain ⟨X, hX⟩ : ∃ X, X = w3.heap.size := ⟨_, rfl⟩
          have HP : Hid (PO w W4 (prt p (k + 1)) vn vl) := HE.out.1.below b4
          rw [← hX] at s0 s1 s2 s3
          go_upto_region 7 with fail
          try rw [hW4]
          try rw [← hX]
          clear hW4 hX hb3 b4 y4 x4 f0 f1
          obtain ⟨c0, c1, c2, c3, c4, c5⟩ := pbox HP.out.box
          have hcD : (sNOT.toList == [68, 79, 67]) = false := by show ((bs [78, 79, 84]).toList == [68, 79, 67]) = false; rw [tag_cmp]; decide
          have hcN : (sNOT.toList == [78, 79, 84]) = true := by show ((bs [78, 79, 84]).toList == [78, 79, 84]) = true; rw [tag_cmp]; decide
          have hnl : (prt p (k + 1)).notes.length = k := by show (p.notes.take (k + 1 - 1)).length = k; rw [List.length_take]; omega
          obtain ⟨tt, htt⟩ : ∃ tt, tt = (ws[0]?).getD eT := ⟨_, rfl⟩
          rw [← htt] at s0
          have HT : Hid (tt = t) := by show _ = _; rw [htt]; exact HW.out.1
          obtain ⟨W5, hW5⟩ : ∃ W5, W4.alloc (.cells #[.string tt] 9) = W5 := ⟨_, rfl⟩
          have b5 : Below W4.heap.size W4 W5 := by rw [← hW5]; exact (Below.refl _ _).alloc (Nat.le_refl _) _
          have y5 : W5.cell? ⟨W4.heap.size, 0, none⟩ = some (.string tt) := by rw [← hW5]; simp [go_sem]
          have HP5 : Hid (PO w W5 (prt p (k + 1)) vn vl) := HP.out.below b5
          have hrow := HP5.out.ns
          have hbase : w.heap.size + 2 ≤ W5.heap.size := HP5.out.lt
          have hl1 : (prt p (k + 1)).notes.length + 1 ≤ 2000000 := by omega
          clear htt b5 hnl
          go_wp2_with (first | (at_builtin; (try rw [hW5]); refine wpList_appTx (base := w.heap.size + 2) (c := W4.heap.size) (C := 1) (lv := vn) (ss := (prt p (k + 1)).notes) (t := tt) rfl (.tmp 39) (.tmp 42) rfl rfl rfl hrow y5 hl1 hbase ?_; rintro v6 w6 hown6 hgrow6 ⟨A6, C6, rfl⟩; obtain ⟨hx6, hq6⟩ := HP5.out.note hown6 hgrow6; have H6 : Hid (PO w (w6.setCell ⟨w.heap.size + 1, 4, none⟩ (.slice A6 ((prt p (k + 1)).notes.length + 1) C6)) (prt p (k + 1 + 1)) (.slice A6 ((prt p (k + 1)).notes.length + 1) C6) vl) := (by rw [prt_note HW.out.2.2.2, ← HT.out]; exact hq6); obtain ⟨m0, m1, m2, m3, m4, m5⟩ := pbox hx6; have mz := frz5 hx6; clear hown6 hgrow6 hx6 hq6; try dsimp only))
          go_roundw
          case rel => exact ⟨k + 1 + 1, _, vl, by go_num, by omega, H6.out⟩
          case measure => simp [intOf]; omega
        · obtain ⟨k, rfl⟩ : ∃ k, j = p.notes.length + k + 1 := ⟨j - 1 - p.notes.length, by omega⟩
          have hkl : k < p.lines.length := by have := HR.out.2.2.2.2.2.2; omega
          obtain ⟨l, hlk, hs0⟩ := body_line (p := p) hkl
          have hs : (bodyW wordsI p)[p.notes.length + k + 1]? = some (hdS (sTag p.kind) (wordsI p.kind l)) := hs0
          have hIl := HR.out.2.2.2.1.2 l (List.mem_of_getElem? hlk)
          have hlz := HR.out.2.2.1.2 k l hlk
          obtain ⟨wl1, wl2⟩ := wordsI_bd (k := p.kind) hIl hlz
          have HL : Hid (p.lines[k]? = some l ∧ LnI l) := ⟨hlk, hIl⟩
          clear hlk hs0 hIl hlz
          obtain ⟨b, o, cap', g', u, e, hs', q0, q1, hE, _⟩ := (HR.out.1.below hQ.bel).at hlt
          rw [hs] at hs'
          simp only [Option.some.injEq] at hs'
          subst hs'
          have hE' : RowE wr u ((wordsI p.kind l).map fun t => [t]) := hE
          have q0' : wr.cell? ⟨b, o + (p.notes.length + k + 1) * 2, none⟩ = some (.string (sTag p.kind)) := q0
          obtain ⟨Au, Cu, hu⟩ := hE'.val
          rw [List.length_map] at hu
          subst hu
          simp only [Value.slice.injEq] at e
          obtain ⟨rfl, hNe, rfl⟩ := e
          clear hNe
          obtain ⟨We, hWe⟩ : ∃ We, wr.alloc (.cells #[.string (sTag p.kind), .slice Au (wordsI p.kind l).length Cu] 90) = We := ⟨_, rfl⟩
          have be : Below wr.heap.size wr We := by rw [← hWe]; exact (Below.refl _ _).alloc (Nat.le_refl _) _
          have ye : We.heap[wr.heap.size]? = some (.cells #[.string (sTag p.kind), .slice Au (wordsI p.kind l).length Cu] 90) := by rw [← hWe]; exact World.alloc_heap_new _ _
          obtain ⟨f0, f1, _⟩ := sbox' ye
          have HE : Hid (PO w We (prt p (p.notes.length + k + 1)) vn vl ∧ RowE We (.slice Au (wordsI p.kind l).length Cu) ((wordsI p.kind l).map fun t => [t]) ∧ We.heap[wr.heap.size]? = some (.cells #[.string (sTag p.kind), .slice Au (wordsI p.kind l).length Cu] 90)) := ⟨hQ.below be, hE'.below be, ye⟩
          clear hQ hE hE' be ye q0
          go_upto_region 6 with fail
          try rw [hWe]
          clear hWe q0' q1
          go_wp2_with fail
          refine (lineWords_any (sTag p.kind) _ (wordsI p.kind l) _ HE.out.2.1 wl1 wl2).mono ?_
          rintro e w3 ⟨rfl, hb3⟩
          unfold w4
          obtain ⟨W4, hW4⟩ : ∃ W4, w3.alloc (.cells #[.string (((wordsI p.kind l)[0]?).getD eT), .string (((wordsI p.kind l)[1]?).getD eT), .string (((wordsI p.kind l)[2]?).getD eT), .string (((wordsI p.kind l)[3]?).getD eT)] 217) = W4 := ⟨_, rfl⟩
          have b4 : Below We.heap.size We W4 := by rw [← hW4]; exact hb3.trans (((Below.refl _ _).alloc (Nat.le_refl _) _).mono hb3.size)
          have y4 : W4.heap[w3.heap.size]? = some (.cells #[.string (((wordsI p.kind l)[0]?).getD eT), .string (((wordsI p.kind l)[1]?).getD eT), .string (((wordsI p.kind l)[2]?).getD eT), .string (((wordsI p.kind l)[3]?).getD eT)] 217) := by rw [← hW4]; exact World.alloc_heap_new _ _
          have x4 := (b4.block _ (Array.getElem?_eq_some_iff.1 HE.out.2.2).1).trans HE.out.2.2
          obtain ⟨g0, g1, _⟩ := sbox' x4
          obtain ⟨s0, s1, s2, s3⟩ := bx4 y4
          obtain ⟨X, hX⟩ : ∃ X, X = w3.heap.size := ⟨_, rfl⟩
          have HP : Hid (PO w W4 (prt p (p.notes.length + k + 1)) vn vl) := HE.out.1.below b4
          rw [← hX] at s0 s1 s2 s3
          go_upto_region 7 with fail
          try rw [hW4]
          try rw [← hX]
          clear hW4 hX hb3 b4 y4 x4 f0 f1
          obtain ⟨c0, c1, c2, c3, c4, c5⟩ := pbox HP.out.box
          have hcD := sTag_cmpD p.kind
          have hcN := sTag_cmpN p.kind
          have hm := method_line p.kind hk
          have hcf := call_line p.kind hk
          have hll : (prt p (p.notes.length + k + 1)).lines.length = k := by
            show ((p.lines.map (lnI p.kind)).take (p.notes.length + k + 1 - 1 - p.notes.length)).length = k
            rw [List.length_take, List.length_map]
            omega
          have e4 : Value.agg #[.string (((wordsI p.kind l)[0]?).getD eT), .string (((wordsI p.kind l)[1]?).getD eT), .string (((wordsI p.kind l)[2]?).getD eT), .string (((wordsI p.kind l)[3]?).getD eT)] = w4 (wordsI p.kind l) := rfl
          obtain ⟨m, hmm⟩ : ∃ m, m = lnI p.kind l := ⟨_, rfl⟩
          have QL := line_any p.kind hk l
          rw [← hmm] at QL
          unfold lnV at QL
          unfold w4 at QL
          have HM : Hid (m = lnI p.kind l) := hmm
          obtain ⟨Av, Nv, Cv, hvl⟩ := row_slice5 HP.out.ls
          subst hvl
          have HE4 : Hid (ErrsAt W4) := (HR.out.2.2.2.2.1.below HP.out.bel).errs
          have HC : Hid (∀ W, Below W4.heap.size W4 W → PO w W (prt p (p.notes.length + k + 1)) vn (.slice Av Nv Cv)) := fun W hW => HP.out.below hW
          obtain ⟨j0, hj0i, hi0, hi1, hi2⟩ := info_parts infoLn
          have hNv : Nv = k := by have := row_n5 HP.out.ls; omega
          subst hNv
          have hmx : (prt p (p.notes.length + Nv + 1)).lines.length + 1 ≤ maxLen := by unfold maxLen; omega
          have HLL : Hid ((prt p (p.notes.length + Nv + 1)).lines.length = Nv) := hll
          have hlb : (prt p (p.notes.length + Nv + 1)).lines.length ≤ 40 := by omega
          have hvb : Nv ≤ 40 := by omega
          clear hll hmm e4
          go_upto_region 8 with fail
          go_region_law (first | (go_simp; refine (QL _ HL.out.2 (by first | exact HE4.out | exact HE4.out.drewP)).mono ?_; rintro e w5 ⟨rfl, hb5⟩; have b5 : Below W4.heap.size W4 w5 := (by first | exact hb5 | exact undrewP hb5); have H5 : Hid (PO w w5 (prt p (p.notes.length + Nv + 1)) vn (.slice Av Nv Cv)) := HC.out w5 b5; obtain ⟨m0, m1, m2, m3, m4, m5⟩ := pbox H5.out.box; have HX : Hid (PO w (w5.alloc (.cells #[.int .i64 m.no, .string m.item, .int .i64 m.qty, .int .i64 m.money, .string m.note] 121)) (prt p (p.notes.length + Nv + 1)) vn (.slice Av Nv Cv)) := H5.out.below ((Below.refl _ _).alloc (Nat.le_refl _) _); have rowN := HX.out.ls; have hsN : w.heap.size + 2 ≤ (w5.alloc (.cells #[.int .i64 m.no, .string m.item, .int .i64 m.qty, .int .i64 m.money, .string m.note] 121)).heap.size := HX.out.lt; obtain ⟨d0, d1, d2, d3, d4, d5⟩ := pbox HX.out.box; clear hb5; try dsimp only) | (refine step_append_lies _ (by rfl) _ _ _ (by rfl) (w.heap.size + 2) 121 j0 _ 5 56 Tryz.underlying64 hj0i hi0 hi1 hi2 rfl (by omega) (.slice Av Nv Cv) (prt p (p.notes.length + Nv + 1)).lines.length (clLs (prt p (p.notes.length + Nv + 1)).lines) (by rfl) rowN ⟨w5.heap.size, 0, none⟩ 1 1 (clL m) (by rfl) (by rfl) (World.news_of_block (cs := #[.int .i64 m.no, .string m.item, .int .i64 m.qty, .int .i64 m.money, .string m.note]) (t := 121) (fr := (0, 0)) (World.alloc_heap_new w5 _)) (by simp [Value.oneCell', clL]) (by omega) hmx (by omega) hsN (w5.heap.size + 1) (by simp) ?_; intro gg cap w10 hown10 hgrow10 hat10 hlt10; have HG := HX.out.line (l := m) hown10 hgrow10; obtain ⟨u0, u1, u2, u3, u4, u5⟩ := pbox HG.1; have uf := frz5 HG.1; have H10 : Hid _ := HG.2; clear HG hown10 hgrow10 hat10 hlt10; try dsimp only) | fail)
          all_goals
            have hF := H10.out
            rw [HM.out, ← prt_line HL.out.1] at hF
            have HF : Hid _ := hF
            clear hF H10
            go_wp2
            go_roundw
            case rel => exact ⟨p.notes.length + Nv + 1 + 1, vn, _, by go_num, by omega, HF.out⟩
            case measure => simp [intOf]; omega
    · obtain rfl : j = N := by omega
      have hrd : prt p j = rdP lnI p := by rw [HR.out.2.2.2.2.2.2]; exact prt_all p
      rw [hrd] at hQ
      have hnz : (rdP lnI p).notes.length ≤ 100 := by show p.notes.length ≤ 100; omega
      have hlz : (rdP lnI p).lines.length ≤ 100 := by show (p.lines.map (lnI p.kind)).length ≤ 100; rw [List.length_map]; omega
      have HF : Hid (PO w wr (rdP lnI p) vn vl ∧ PapR wr vn vl (rdP lnI p) ∧ CapL vl (rdP lnI p).lines.length) := ⟨hQ, ⟨rowS_of_owns hQ.ns hnz (fun t ht => by obtain ⟨i, hi⟩ := List.getElem?_of_mem ht; exact HR.out.2.1.2 i t hi), rowL_of_owns hQ.ls hlz (fun l hl => lnI_bd HR.out.2.2.1 hl), by show p.ref.size ≤ _; omega, rd_other hz2⟩, capL_of hQ.ls⟩
      obtain ⟨c0, c1, c2, c3, c4, c5⟩ := pbox hQ.box
      obtain ⟨r0, r1, r2, r3, r4, r5⟩ := pbox hQ.res
      have rz := frz5 hQ.res
      obtain ⟨An, Nn, Cn, hvn⟩ := row_slice hQ.ns
      obtain ⟨Al, Nl, Cl, hvl⟩ := row_slice5 hQ.ls
      subst hvn hvl
      clear hQ
      go_wp2
      refine bodyPost_ret (v := .agg #[.int .i64 (rdP lnI p).kind, .string (rdP lnI p).ref, .string (rdP lnI p).other, .int .i64 (rdP lnI p).day, .slice An Nn Cn, .slice Al Nl Cl]) (by simp [results, Tryz.results155, go_sem, r0, r1, r2, r3, r4, r5]) rfl ⟨_, _, rfl, ?_, HF.out.2.2, ?_, ?_⟩
      · exact papR_set HF.out.2.1 HF.out.1
      · exact ((((((OwnQ.mk HF.out.1.ns HF.out.1.ls).set (by omega) _ _).set (by omega) _ _).set (by omega) _ _).set (by omega) _ _).set (by omega) _ _).set (by omega) _ _
      · exact (((((HF.out.1.bel.setCell (Nat.le_refl _) _).setCell (Nat.le_refl _) _).setCell (Nat.le_refl _) _).setCell (Nat.le_refl _) _).setCell (Nat.le_refl _) _).setCell (Nat.le_refl _) _
end Go.Proofs.YtkaolpnbddjdpaaGreatDoor
